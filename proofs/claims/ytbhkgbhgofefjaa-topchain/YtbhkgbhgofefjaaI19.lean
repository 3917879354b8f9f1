/- A range over a function, place by place: the function and the body share one word 'J k' (k places are behind). -/
import Derived.Test.YtbhkgbhgofefjaaI18
namespace Go.Proofs.Ytbhkgbhgofefjaa
open Go.RowKit Go.Lib
set_option linter.unusedVariables false
/-- A loop's record that waits for its next round, and the block for deferred calls. -/
def Kept (l D : Nat) (r : Loop) (W : World) : Prop := W.heap[l]? = some (.loop r) ∧ W.heap[D]? = some (.deferred (some []))
theorem Kept.alloc {l D : Nat} {r : Loop} {W : World} (h : Kept l D r W) (o : Obj) : Kept l D r (W.alloc o) :=
  ⟨(Below.heap_alloc _ _ _ (Array.getElem?_eq_some_iff.1 h.1).1).trans h.1, (Below.heap_alloc _ _ _ (Array.getElem?_eq_some_iff.1 h.2).1).trans h.2⟩
theorem Kept.put {l D : Nat} {r : Loop} {W : World} (h : Kept l D r W) (hne : l ≠ D) (r' : Loop) : Kept l D r' (W.putObj l (.loop r')) :=
  ⟨World.putObj_heap_same (Array.getElem?_eq_some_iff.1 h.1).1, (World.putObj_heap_other (Ne.symm hne)).trans h.2⟩
theorem Kept.far {l D k : Nat} {r : Loop} {W : World} (h : Kept l D r W) (h1 : l ≠ k) (h2 : D ≠ k) (o : Obj) : Kept l D r (W.putObj k o) :=
  ⟨(World.putObj_heap_other h1).trans h.1, (World.putObj_heap_other h2).trans h.2⟩
theorem Kept.keeps {l D B : Nat} {r : Loop} {W W' : World} (h : Kept l D r W) (hl : B ≤ l) (hD : B ≤ D) (hk : KeepsFrom B W W') : Kept l D r W' :=
  ⟨hk.same l _ hl h.1 rfl, hk.same D _ hD h.2 rfl⟩
/-- J abides new blocks, and turns of what is no cells, from n on. -/
structure Abd (n : Nat) (J : Nat → World → Prop) : Prop where
  al : ∀ k W o, J k W → J k (World.alloc W o)
  pu : ∀ k W l o o', n ≤ l → W.heap[l]? = some o → o.isCells = false → J k W → J k (W.putObj l o')
/-- What a round keeps: what is no cells, from n on; cells that do not belong to S. -/
structure Kk (n : Nat) (S : Nat → Prop) (V V' : World) : Prop where
  kp : KeepsFrom n V V'
  kc : ∀ b c t x, ¬ S b → V.heap[b]? = some (.cells c t x) → V'.heap[b]? = some (.cells c t x)
theorem Kk.refl (n : Nat) (S : Nat → Prop) (V : World) : Kk n S V V := ⟨KeepsFrom.refl _ _, fun _ _ _ _ _ h => h⟩
theorem Kk.trans {n : Nat} {S : Nat → Prop} {A B C : World} (h : Kk n S A B) (k : Kk n S B C) : Kk n S A C := ⟨h.kp.trans k.kp, fun b c t x hs hb => k.kc b c t x hs (h.kc b c t x hs hb)⟩
theorem Kk.wide {n n' : Nat} {S : Nat → Prop} {A B : World} (h : Kk n S A B) (hn : n ≤ n') : Kk n' S A B := ⟨⟨h.kp.size, fun k o hk ho hc => h.kp.same k o (Nat.le_trans hn hk) ho hc⟩, h.kc⟩
theorem Kk.below {n : Nat} {S : Nat → Prop} {A B : World} (h : Below A.heap.size A B) : Kk n S A B :=
  ⟨⟨h.size, fun k o _ ho _ => (h.block k (Array.getElem?_eq_some_iff.1 ho).1).trans ho⟩, fun b c t x _ hb => (h.block b (Array.getElem?_eq_some_iff.1 hb).1).trans hb⟩
theorem Kk.alloc {n : Nat} {S : Nat → Prop} {A B : World} (h : Kk n S A B) (o : Obj) : Kk n S A (B.alloc o) := h.trans (Kk.below ((Below.refl _ B).alloc (Nat.le_refl _) o))
theorem Kk.setCell {n : Nat} {S : Nat → Prop} {A B : World} (h : Kk n S A B) {a : Addr} (ha : S a.block) (v : Value) : Kk n S A (B.setCell a v) :=
  h.trans ⟨(KeepsOthers.setCell B a v).from n, fun b c t x hs hb => (Below.heap_setCell _ _ _ _ (fun e => hs (by rw [e]; exact ha))).trans hb⟩
theorem Kk.put {n : Nat} {S : Nat → Prop} {A B : World} (h : Kk n S A B) {l : Nat} {o o' : Obj} (hl : l < n) (ho : B.heap[l]? = some o) (hc : o.isCells = false) : Kk n S A (B.putObj l o') := by
  refine h.trans ⟨⟨by simp [World.putObj], fun k x hk hx _ => (World.putObj_heap_other (by omega)).trans hx⟩, fun b c t x _ hb => (World.putObj_heap_other (fun e => ?_)).trans hb⟩
  subst e
  rw [hb] at ho
  obtain rfl := Option.some.inj ho
  cases hc
theorem Kk.box {n : Nat} {S : Nat → Prop} {A B : World} (h : Kk n S A B) {b : Nat} {t : TypeId} {v : Value} (hs : ¬ S b) (hb : Boxed A b t v) : Boxed B b t v := h.kc b _ _ _ hs hb
theorem box_put {V : World} {b : Nat} {ty : TypeId} {v : Value} {k : Nat} {o o' : Obj} (hb : Boxed V b ty v) (ho : V.heap[k]? = some o) (hc : o.isCells = false) : Boxed (V.putObj k o') b ty v := by
  refine hb.kept (grownBy_putObj' V k o') (fun e => ?_)
  cases e
  rw [show V.heap[b]? = _ from hb] at ho
  obtain rfl := Option.some.inj ho
  cases hc
theorem rangeP {P : Program} {n : Nat} {g : Operand} {p : Tmp} {assign body : Code} {Q : Exit → Act → World → Prop} {a : Act} {w : World} {gf : Nat} {lb : Array Value}
    (hg : a.eval g = .func (.func gf) #[] lb) (eg : ∀ args w, (callFunc gf args).run P w = .ok (.enter gf args) w)
    (J : Nat → World → Prop) (N Y : Nat → Prop) (enc : Nat → Value) (m : Nat) (a₁ : Nat → Act) (S : Nat → Prop)
    (hA : Abd w.heap.size J)
    (hNo : ∀ k W, N k → J k W → J (k + 1) W) (h0 : J 0 w)
    (hit : ∀ (l : Nat) (J' : Nat → World → Prop) (W : World), (∀ k W, J' k W → J k W) → Abd W.heap.size J' → (∀ k W, N k → J' k W → J' (k + 1) W) →
      (∀ k V, Y k → J' k V → YieldAt Fence.wide (n - 1 - 1) P l #[enc k] V fun e V' => e = .returned (.bool true) ∧ J' (k + 1) V' ∧ Kk W.heap.size S V V') → J' 0 W → w.heap.size + 2 = W.heap.size →
      CallsIn Fence.wide (n - 1) P gf (#[.func (.yield l) #[] #[]] ++ lb) W fun e W' => (∃ v, e = .returned v) ∧ J' m W')
    (has : ∀ (l k : Nat) (W : World) (K : Act → World → Prop), K (a₁ k) W → assign.wpIn (Fence.wide.inRound l) (n - 1 - 1) P (Exit.then K (fun _ _ _ => False)) { tmps := a.tmps.setIfInBounds p (enc k), defers := [] } W)
    (hbo : ∀ (l k : Nat) (W : World), Y k → J k W → body.wpIn (Fence.wide.inRound l) (n - 1 - 1) P (fun e _ W' => e = .normal ∧ Kk w.heap.size S W W' ∧ J (k + 1) W') (a₁ k) W)
    (hdo : ∀ (D : Nat) (W : World), w.heap.size ≤ D → J m W → W.heap[D]? = some (.deferred (some [])) → Q .normal { a with defers := { target := .collected D, args := #[] } :: a.defers } W) :
    (Code.rangeFunc g #[p] assign body).wpIn Fence.wide n P Q a w := by
  refine wpIn_rangeFunc fun fn hfn => ?_
  have hne : w.heap.size + 1 ≠ w.heap.size := by omega
  obtain ⟨r, hr⟩ : ∃ r : Loop, r = { state := .ready, pending := none, fn, tmps := a.tmps, params := #[p], assign, body, defers := w.heap.size } := ⟨_, rfl⟩
  have hk0 : Kept (w.heap.size + 1) w.heap.size r ((w.alloc (.deferred (some []))).alloc (.loop r)) := by
    refine ⟨?_, (Below.heap_alloc _ _ _ (by simp)).trans (World.alloc_heap_new w _)⟩
    have := World.alloc_heap_new (w.alloc (.deferred (some []))) (.loop r)
    rwa [World.size_alloc] at this
  have hready : r.state = .ready := by rw [hr]
  refine ⟨w.heap.size + 1, [{ target := .collected w.heap.size, args := #[] }], (w.alloc (.deferred (some []))).alloc (.loop r), { target := .fn (.func gf) lb, args := #[.func (.yield (w.heap.size + 1)) #[] #[]] }, (w.alloc (.deferred (some []))).alloc (.loop r), gf, #[.func (.yield (w.heap.size + 1)) #[] #[]] ++ lb, (w.alloc (.deferred (some []))).alloc (.loop r), ?_, ?_, fun _ _ => trivial, ?_, fun h => (by cases h), ?_⟩
  · rw [hr]; exact run_enterLoop_outer _ _ _ _ _
  · simp only [resolve, hg]
    simp [go_sem]
  · simp [invoke, go_sem, eg]
  · refine (hit (w.heap.size + 1) (fun k W => J k W ∧ Kept (w.heap.size + 1) w.heap.size r W) _ (fun _ _ h => h.1) ⟨fun k W o h => ⟨hA.al k W o h.1, h.2.alloc o⟩, fun k W l o o' hl ho hc h => ?_⟩ (fun k W hN h => ⟨hNo k W hN h.1, h.2⟩) ?_ ⟨hA.al 0 _ _ (hA.al 0 _ _ h0), hk0⟩ (by simp)).mono ?_
    · simp only [World.size_alloc] at hl
      exact ⟨hA.pu k W l o o' (by omega) ho hc h.1, h.2.far (by omega) (by omega) o'⟩
    · rintro k W hY ⟨hJ, hK⟩
      have hy := run_yield (P := P) (args := #[enc k]) hK.1 (by rw [hr]; rfl)
      refine ⟨_, _, _, _, hy, roundIn_of_wpIn (by rw [hr]; exact hfn) ?_⟩
      have e1 : r.assign = assign := by rw [hr]
      have e2 : r.body = body := by rw [hr]
      have e3 : ((r.params.zip #[enc k]).foldl (fun tmps (t, a) => tmps.setIfInBounds t a) r.tmps) = a.tmps.setIfInBounds p (enc k) := by rw [hr]; simp
      rw [e1, e2, e3]
      refine has _ k W _ ?_
      refine ⟨_, run_beginRound hK.1 hready, ?_⟩
      have hJ1 : J k (W.putObj (w.heap.size + 1) (.loop { r with state := .busy })) := hA.pu k W _ _ _ (by omega) hK.1 rfl hJ
      have hK1 := hK.put hne { r with state := .busy }
      refine wpIn_mono (hbo _ k _ hY hJ1) ?_
      rintro e a3 W3 ⟨rfl, hk3, hJ3⟩
      have hK3 := hK1.keeps (by omega) (Nat.le_refl _) hk3.kp
      have hkk : Kk (w.heap.size + 2) S W W3 := ((Kk.refl _ S W).put (by omega) hK.1 rfl).trans (hk3.wide (by omega))
      refine ⟨_, _, run_endRound none hK3.1, rfl, ⟨hA.pu (k + 1) W3 _ _ _ (by omega) hK3.1 rfl hJ3, ?_⟩, ?_⟩
      · have := hK3.put hne { { r with state := LoopState.busy } with state := .ready, pending := none }
        rw [hr] at this ⊢
        exact this
      · simp only [World.size_alloc]
        exact hkk.put (by omega) hK3.1 rfl
    · rintro e W2 ⟨⟨v, rfl⟩, hJ, hK⟩
      refine ⟨none, _, ?_, hdo _ _ (Nat.le_refl _) (hA.pu m W2 _ _ (.loop { r with state := .exhausted }) (by omega) hK.1 rfl hJ) (hK.put hne _).2⟩
      have := run_endLoop (P := P) hK.1 (by rw [hready]; decide)
      rw [this, hr]
end Go.Proofs.Ytbhkgbhgofefjaa
