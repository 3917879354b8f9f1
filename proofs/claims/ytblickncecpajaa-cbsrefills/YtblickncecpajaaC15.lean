/-
  A range over a function whose body may write what the function goes on reading: the function is told, place by place, what holds there ('J k': k places are behind it).
-/
import Derived.Test.YtblickncecpajaaC14
namespace Go.Proofs.Ytblickncecpajaa
open Go.RowKit Go.Lib
set_option linter.unusedVariables false

/-- A loop's record that waits for its next round, and the block for deferred calls. -/
def Kept (l D : Nat) (r : Loop) (W : World) : Prop := W.heap[l]? = some (.loop r) ∧ W.heap[D]? = some (.deferred (some []))
theorem Kept.alloc {l D : Nat} {r : Loop} {W : World} (h : Kept l D r W) (o : Obj) : Kept l D r (W.alloc o) :=
  ⟨(Below.heap_alloc _ _ _ (Array.getElem?_eq_some_iff.1 h.1).1).trans h.1, (Below.heap_alloc _ _ _ (Array.getElem?_eq_some_iff.1 h.2).1).trans h.2⟩
theorem Kept.put {l D : Nat} {r : Loop} {W : World} (h : Kept l D r W) (hne : l ≠ D) (r' : Loop) : Kept l D r' (W.putObj l (.loop r')) :=
  ⟨World.putObj_heap_same (Array.getElem?_eq_some_iff.1 h.1).1, (World.putObj_heap_other (Ne.symm hne)).trans h.2⟩
theorem Kept.keeps {l D B : Nat} {r : Loop} {W W' : World} (h : Kept l D r W) (hl : B ≤ l) (hD : B ≤ D) (hk : KeepsFrom B W W') : Kept l D r W' :=
  ⟨hk.same l _ hl h.1 rfl, hk.same D _ hD h.2 rfl⟩

theorem range_places {P : Program} {n : Nat} {g : Operand} {p : Tmp} {assign body : Code} {Q : Exit → Act → World → Prop} {a : Act} {w : World} {gf : Nat} {lb : Array Value}
    (hg : a.eval g = .func (.func gf) #[] lb) (eg : ∀ args w, (callFunc gf args).run P w = .ok (.enter gf args) w)
    (J : Nat → World → Prop) (N Y : Nat → Prop) (enc : Nat → Value) (m : Nat) (a₁ : Nat → Act)
    (hAl : ∀ k W o, J k W → J k (World.alloc W o))
    (hPu : ∀ k W l o o', w.heap.size ≤ l → W.heap[l]? = some o → o.isCells = false → J k W → J k (W.putObj l o'))
    (hNo : ∀ k W, N k → J k W → J (k + 1) W) (h0 : J 0 w)
    (hit : ∀ (l : Nat) (J' : Nat → World → Prop) (W : World), (∀ k W, J' k W → J k W) → (∀ k W o, J' k W → J' k (World.alloc W o)) → (∀ k W, N k → J' k W → J' (k + 1) W) →
      (∀ k W, Y k → J' k W → YieldAt Fence.wide (n - 1 - 1) P l #[enc k] W fun e W' => e = .returned (.bool true) ∧ J' (k + 1) W') → J' 0 W →
      CallsIn Fence.wide (n - 1) P gf (#[.func (.yield l) #[] #[]] ++ lb) W fun e W' => (∃ v, e = .returned v) ∧ J' m W')
    (has : ∀ (l k : Nat) (W : World) (K : Act → World → Prop), K (a₁ k) W → assign.wpIn (Fence.wide.inRound l) (n - 1 - 1) P (Exit.then K (fun _ _ _ => False)) { tmps := a.tmps.setIfInBounds p (enc k), defers := [] } W)
    (hbo : ∀ (l k : Nat) (W : World), Y k → J k W → body.wpIn (Fence.wide.inRound l) (n - 1 - 1) P (fun e _ W' => e = .normal ∧ KeepsFrom w.heap.size W W' ∧ J (k + 1) W') (a₁ k) W)
    (hdo : ∀ (D : Nat) (W : World), w.heap.size ≤ D → J m W → W.heap[D]? = some (.deferred (some [])) → Q .normal { a with defers := { target := .collected D, args := #[] } :: a.defers } W) :
    (Code.rangeFunc g #[p] assign body).wpIn Fence.wide n P Q a w := by
  refine wpIn_rangeFunc fun fn hfn => ?_
  have hne : w.heap.size + 1 ≠ w.heap.size := by omega
  obtain ⟨r, hr⟩ : ∃ r : Loop, r = { state := .ready, pending := none, fn, tmps := a.tmps, params := #[p], assign, body, defers := w.heap.size } := ⟨_, rfl⟩
  have hk0 : Kept (w.heap.size + 1) w.heap.size r ((w.alloc (.deferred (some []))).alloc (.loop r)) := by
    refine ⟨?_, (Below.heap_alloc _ _ _ (by simp)).trans (World.alloc_heap_new w _)⟩
    have := World.alloc_heap_new (w.alloc (.deferred (some []))) (.loop r)
    rwa [World.size_alloc] at this
  have hready : r.state = .ready := by rw [hr]
  refine ⟨w.heap.size + 1, [{ target := .collected w.heap.size, args := #[] }], (w.alloc (.deferred (some []))).alloc (.loop r), { target := .fn (.func gf) lb, args := #[.func (.yield (w.heap.size + 1)) #[] #[]] }, (w.alloc (.deferred (some []))).alloc (.loop r), gf, #[.func (.yield (w.heap.size + 1)) #[] #[]] ++ lb, (w.alloc (.deferred (some []))).alloc (.loop r), ?_, ?_, fun _ _ => trivial, ?_, fun h => (by cases h), ?_⟩
  · rw [hr]; exact run_enterLoop_outer _ _ _ _ _
  · simp only [resolve, hg]
    simp [go_sem]
  · simp [invoke, go_sem, eg]
  · refine (hit (w.heap.size + 1) (fun k W => J k W ∧ Kept (w.heap.size + 1) w.heap.size r W) _ (fun _ _ h => h.1) (fun k W o h => ⟨hAl k W o h.1, h.2.alloc o⟩) (fun k W hN h => ⟨hNo k W hN h.1, h.2⟩) ?_ ⟨hAl 0 _ _ (hAl 0 _ _ h0), hk0⟩).mono ?_
    · rintro k W hY ⟨hJ, hK⟩
      have hy := run_yield (P := P) (args := #[enc k]) hK.1 (by rw [hr]; rfl)
      refine ⟨_, _, _, _, hy, roundIn_of_wpIn (by rw [hr]; exact hfn) ?_⟩
      have e1 : r.assign = assign := by rw [hr]
      have e2 : r.body = body := by rw [hr]
      have e3 : ((r.params.zip #[enc k]).foldl (fun tmps (t, a) => tmps.setIfInBounds t a) r.tmps) = a.tmps.setIfInBounds p (enc k) := by rw [hr]; simp
      rw [e1, e2, e3]
      refine has _ k W _ ?_
      refine ⟨_, run_beginRound hK.1 hready, ?_⟩
      have hJ1 : J k (W.putObj (w.heap.size + 1) (.loop { r with state := .busy })) := hPu k W _ _ _ (by omega) hK.1 rfl hJ
      have hK1 := hK.put hne { r with state := .busy }
      refine wpIn_mono (hbo _ k _ hY hJ1) ?_
      rintro e a3 W3 ⟨rfl, hk3, hJ3⟩
      have hK3 := hK1.keeps (by omega) (Nat.le_refl _) hk3
      refine ⟨_, _, run_endRound none hK3.1, rfl, hPu (k + 1) W3 _ _ _ (by omega) hK3.1 rfl hJ3, ?_⟩
      have := hK3.put hne { { r with state := LoopState.busy } with state := .ready, pending := none }
      rw [hr] at this ⊢
      exact this
    · rintro e W2 ⟨⟨v, rfl⟩, hJ, hK⟩
      refine ⟨none, _, ?_, hdo _ _ (Nat.le_refl _) (hPu m W2 _ _ (.loop { r with state := .exhausted }) (by omega) hK.1 rfl hJ) (hK.put hne _).2⟩
      have := run_endLoop (P := P) hK.1 (by rw [hready]; decide)
      rw [this, hr]
end Go.Proofs.Ytblickncecpajaa
