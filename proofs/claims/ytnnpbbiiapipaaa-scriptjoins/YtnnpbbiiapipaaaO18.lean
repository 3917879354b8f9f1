/-
  prog: what read's loop keeps; read walked.
-/
import Derived.Test.YtnnpbbiiapipaaaO17
namespace Go.Proofs.Ytnnpbbiiapipaaa
open Go.RowKit Go.Lib

/-- The reader's rest and the named result, at a world behind w. -/
structure St (w wr : World) (ra : Addr) (rl rc : Nat) (v : Value) : Prop where
  bel : Below w.heap.size w wr
  size : w.heap.size + 2 ≤ wr.heap.size
  rest : wr.cell? ⟨w.heap.size + 1, 0, none⟩ = some (.slice (some ra) rl rc)
  rfz : wr.frozen? ⟨w.heap.size + 1, 0, none⟩ = false
  pc : wr.cell? ⟨w.heap.size, 0, none⟩ = some v
  pfz : wr.frozen? ⟨w.heap.size, 0, none⟩ = false
theorem below_set {B : Nat} {w wr : World} (h : Below B w wr) (a : Addr) (u : Value) (ha : B ≤ a.block) : Below B w (wr.setCell a u) :=
  ⟨h.os, h.tape, h.output, by simpa using h.size, fun k hk => (Below.heap_setCell _ _ _ _ (fun e => by omega)).trans (h.block k hk)⟩
theorem frozen_set (w : World) (a b : Addr) (u : Value) : (w.setCell a u).frozen? b = w.frozen? b := by simp
theorem St.setRest {w wr : World} {ra : Addr} {rl rc : Nat} {v : Value} (h : St w wr ra rl rc v) (ra' : Addr) (rl' rc' : Nat) : St w (wr.setCell ⟨w.heap.size + 1, 0, none⟩ (.slice (some ra') rl' rc')) ra' rl' rc' v :=
  ⟨below_set h.bel _ _ (by simp), by simpa using h.size, World.cell?_setCell_same _ _ _ h.rest, by rw [frozen_set]; exact h.rfz,
    (World.cell?_setCell_other _ _ _ _ (by intro e; simp at e)).trans h.pc, by rw [frozen_set]; exact h.pfz⟩
theorem St.setP {w wr : World} {ra : Addr} {rl rc : Nat} {v : Value} (h : St w wr ra rl rc v) (v' : Value) : St w (wr.setCell ⟨w.heap.size, 0, none⟩ v') ra rl rc v' :=
  ⟨below_set h.bel _ _ (by simp), by simpa using h.size, (World.cell?_setCell_other _ _ _ _ (by intro e; simp at e)).trans h.rest, by rw [frozen_set]; exact h.rfz,
    World.cell?_setCell_same _ _ _ h.pc, by rw [frozen_set]; exact h.pfz⟩
theorem St.drew {w wr : World} {ra : Addr} {rl rc : Nat} {v : Value} (h : St w wr ra rl rc v) : St w wr.drew ra rl rc v :=
  ⟨⟨h.bel.os, h.bel.tape, h.bel.output, h.bel.size, h.bel.block⟩, h.size, h.rest, h.rfz, h.pc, h.pfz⟩
theorem St.alloc {w wr : World} {ra : Addr} {rl rc : Nat} {v : Value} (h : St w wr ra rl rc v) (o : Obj) : St w (wr.alloc o) ra rl rc v := by
  have hs := h.size
  have hb := (Below.refl wr.heap.size wr).alloc (Nat.le_refl _) o
  have hf : ∀ k, k < wr.heap.size → (wr.alloc o).frozen? ⟨k, 0, none⟩ = wr.frozen? ⟨k, 0, none⟩ := fun k hk => by
    unfold World.frozen?
    rw [Below.heap_alloc _ _ _ hk]
  exact ⟨h.bel.alloc (by omega) o, by simp; omega, (hb.cell (p := ⟨w.heap.size + 1, 0, none⟩) (by simp; omega)).trans h.rest, (hf _ (by omega)).trans h.rfz,
    (hb.cell (p := ⟨w.heap.size, 0, none⟩) (by simp; omega)).trans h.pc, (hf _ (by omega)).trans h.pfz⟩
theorem St.grown {w wr w' : World} {ra : Addr} {rl rc : Nat} {v : Value} {row : Option Nat} (h : St w wr ra rl rc v) (hg : wr.grownBy w' row) (hr : ∀ k, row = some k → w.heap.size + 2 ≤ k) : St w w' ra rl rc v := by
  have hs := h.size
  have hk : ∀ k, k < w.heap.size + 2 → w'.heap[k]? = wr.heap[k]? := fun k hk => hg.block k (by omega) (fun e => by have := hr k e.symm; omega)
  have hf : ∀ k, k < w.heap.size + 2 → w'.frozen? ⟨k, 0, none⟩ = wr.frozen? ⟨k, 0, none⟩ := fun k hk' => by
    unfold World.frozen?
    rw [hk k hk']
  exact ⟨h.bel.grown hg (by omega) (fun k e => by have := hr k e; omega), Nat.le_trans hs hg.size, (World.cell?_of_block (hk (w.heap.size + 1) (by omega))).trans h.rest, (hf _ (by omega)).trans h.rfz,
    (World.cell?_of_block (hk w.heap.size (by omega))).trans h.pc, (hf _ (by omega)).trans h.pfz⟩
theorem row_set {w : World} {base : Nat} {e : TypeId} {size : Nat} {v : Value} {n : Nat} {xs : List Value} (h : w.ownsRow base e size v n xs) (a : Addr) (u : Value) (ha : a.block < base) : (w.setCell a u).ownsRow base e size v n xs := by
  refine ⟨h.1, ?_⟩
  rcases h.2 with hn | ⟨g, cap, cur, rfl, hb, hgg, rest⟩
  · exact .inl hn
  · exact .inr ⟨g, cap, cur, rfl, hb, (Below.heap_setCell _ _ _ _ (fun q => by omega)).trans hgg, rest⟩
theorem row_drew {w : World} {base : Nat} {e : TypeId} {size : Nat} {v : Value} {n : Nat} {xs : List Value} (h : w.ownsRow base e size v n xs) : w.drew.ownsRow base e size v n xs := h
theorem row_low {w : World} {base base' : Nat} {e : TypeId} {size : Nat} {v : Value} {n : Nat} {xs : List Value} (h : w.ownsRow base e size v n xs) (hb : base' ≤ base) : w.ownsRow base' e size v n xs := by
  refine ⟨h.1, ?_⟩
  rcases h.2 with hn | ⟨g, cap, cur, rfl, hb', rest⟩
  · exact .inl hn
  · exact .inr ⟨g, cap, cur, rfl, by omega, rest⟩

theorem step_append_any {P : Program} (w : World) {ops : Array Oper} {o : Oper} {a : Act} {K : Act → World → Prop} {Q : Exit → Act → World → Prop} {E : Prop} (hgd : o.guard = none) (s x : Operand) (t : TypeId)
    (ho : o.op = .call { callee := .builtin .append, args := #[s, x], argTypes := #[t, t] })
    (base : Nat) (e : TypeId) (i : TypeInfo) (z : Value) (size bytes : Nat) (ht : P.underlying t = some (.slice e)) (hi : P.info? e = some i) (hz : i.zero = some z)
    (hsize : i.size = size) (hby : i.bytes = bytes) (hzs : z.cells.size = size) (hsz : 0 < size)
    (v : Value) (n : Nat) (xs : List Value) (hs : a.eval s = v) (hown : w.ownsRow base e size v n xs)
    (ad : Addr) (m c : Nat) (news : List Value) (hx : a.eval x = .slice (some ad) m c) (hl : news.length = m * size) (hnews : ∀ j u, news[j]? = some u → w.cell? (ad.add j) = some u) (h1 : ∀ u ∈ news, u.oneCell' = true)
    (h63 : n + m ≤ maxLen) (hbytes : (n + m) * bytes ≤ 140737488355328) (hbase : base ≤ w.heap.size)
    (h : ∀ v' w', w'.ownsRow base e size v' (n + m) (xs ++ news) → w.grownBy w' v.ownBlock → K (a.put o.dst v') w') :
    if Region.wanted o (yielded ops a.tmps) = true then Oper.wp P o a w K Q else E := by
  have hw : Region.wanted o (yielded ops a.tmps) = true := by simp [Region.wanted, hgd]
  rw [if_pos hw]
  exact wp_append_own w s x t ho base e i z size bytes ht hi hz hsize hby hzs hsz v n xs hs hown ad m c news hx hl hnews h1 h63 hbytes hbase fun v' w' h2 h3 _ => h v' w' h2 h3
theorem cell_two_new (w : World) (x y : Value) (t : TypeId) : ∀ j u, [x, y][j]? = some u → (w.alloc (.cells #[x, y] t)).cell? ((⟨w.heap.size, 0, none⟩ : Addr).add j) = some u := by
  intro j u hu
  have hadd : (⟨w.heap.size, 0, none⟩ : Addr).add j = ⟨w.heap.size, j, none⟩ := by unfold Addr.add; split <;> simp_all
  rw [hadd]
  unfold World.cell?
  simp only [(MapKept.heap_alloc w _).1]
  simpa using hu
theorem row_slice {w : World} {base : Nat} {e : TypeId} {size : Nat} {v : Value} {n : Nat} {xs : List Value} (h : w.ownsRow base e size v n xs) : ∃ a l c, v = .slice a l c := by
  rcases h.2 with ⟨rfl, _⟩ | ⟨g, cap, cur, rfl, _⟩
  · exact ⟨_, _, _, rfl⟩
  · exact ⟨_, _, _, rfl⟩

/-- What read's loop keeps. -/
def Rd (w wr : World) (X : Nat → Nat) (lb off len cap k : Nat) : Prop :=
  1 + 4 * k ≤ len ∧ ∃ ra va vl vc, St w wr ra (len - 1 - 4 * k) (cap - 1 - 4 * k) (.slice va vl vc) ∧ (0 < len - 1 - 4 * k → ra = ⟨lb, off + 1 + 4 * k, none⟩) ∧ wr.ownsRow (w.heap.size + 2) 64 2 (.slice va vl vc) k (pcells (deO X) (deR X) k)

set_option maxRecDepth 100000 in
set_option maxHeartbeats 4000000 in
theorem read_some (w : World) (lb off len cap : Nat) (X : Nat → Nat) (hlb : lb < w.heap.size) (hl : 1 ≤ len) (hc : len ≤ cap) (hcap : cap < 9223372036854775808)
    (hx : ∀ j, j < len → w.cell? ⟨lb, off + j, none⟩ = some (.int .u8 (X j : Int)) ∧ X j < 256) :
    Calls Try.prog 47 #[.slice (some ⟨lb, off, none⟩) len cap] w fun e w' => ∃ v, e = .returned v ∧ ReadPost w X len v w' := by
  have hmf : ∀ (fn : Fn) (first cap : Array Value) (w : World), (Instr.makeFunc fn first cap).run Try.prog w = .ok (.func fn first cap) w := fun _ _ _ _ => rfl
  have hB0 : Below w.heap.size w ((w.alloc (.cells #[.slice none 0 0] 34)).alloc (.cells #[.slice (some ⟨lb, off, none⟩) len cap] 86)) := ((Below.refl _ _).alloc (Nat.le_refl _) _).alloc (by simp) _
  have hS0 : St w ((w.alloc (.cells #[.slice none 0 0] 34)).alloc (.cells #[.slice (some ⟨lb, off, none⟩) len cap] 86)) ⟨lb, off, none⟩ len cap (.slice none 0 0) :=
    ⟨hB0, by simp, by simp [go_sem], by simp [go_sem], by simp [go_sem], by simp [go_sem]⟩
  have hX := veil hx
  have h00 := hx 0 (by omega)
  have HN := veil (number1 _ (w.heap.size + 1) lb off len cap (X 0) h00.2 hS0.rest hS0.rfz hl hc hcap ((hB0.cell (p := ⟨lb, off, none⟩) hlb).trans h00.1))
  have h00' := h00.2
  have HS0 := veil hS0
  clear hx h00 hB0 hS0
  go_enter_defers Try.func47, Try.ntmps47
  go_wp2_with (go_at_call 49; refine (HN.out).mono ?_; rintro e w1 ⟨rfl, a1, hw, ha1⟩; have HR : Hid (Rd w w1 X lb off len cap 0) := (by refine ⟨by omega, a1, none, 0, 0, ?_, fun q => ha1 (by omega), World.ownsRow_nil _ _ _ _⟩; rw [hw]; exact HS0.out.setRest a1 _ _); clear hw ha1 HN)
  clear HS0
  go_loopw [11] (fun i wr => ∃ (k : Nat), k ≤ X 0 ∧ i = .int .i64 k ∧ Rd w wr X lb off len cap k) (fun i _ => X 0 - (intOf i).toNat)
  case atStart => exact ⟨0, by omega, rfl, HR.out⟩
  case round =>
    obtain ⟨k, hk, rfl, hkl, ra, va, vl, vc, hst, hra, hown⟩ := hrel
    have HST := veil hst
    have HO := veil hown
    have HRA := veil hra
    clear hst hown hra HR
    by_cases hkx : k < X 0
    · have hkx' : (k : Int) < (X 0 : Int) := by omega
      by_cases hL : len - 1 - 4 * k < 1
      · have HNC := veil (number_cut wr _ _ _ _ 1 HST.out.rest hL (by omega))
        go_wp2_with (go_at_call 49; refine (HNC.out).mono ?_; rintro e w2 ⟨rfl, hw⟩; replace hw := hw.symm; subst hw)
        refine leaves_cons (f := 48) (args := #[.pointer (some ⟨w.heap.size, 0, none⟩)]) (by simp) (by simp [go_sem]) ?_
        refine (catch_panicking ⟨w.heap.size, 0, none⟩ _ [] _ HST.out.pc HST.out.pfz ⟨_, _, _, rfl⟩).mono ?_
        rintro e u' w'' ⟨rfl, rfl, hw⟩
        replace hw : w'' = caught w _ := hw
        have hcc : w''.cell? ⟨w.heap.size, 0, none⟩ = some (.slice none 0 0) := by rw [hw]; exact caught_cell HST.out.pc
        have HW := veil hw
        clear hw
        simp [Leaves, settle, results, Try.results47, go_sem, hcc]
        rw [HW.out]
        exact caught_post HST.out.bel (by omega)
      · have hra := HRA.out (by omega)
        subst hra
        have hst := HST.out
        obtain ⟨z1, z1'⟩ := hX.out (1 + 4 * k) (by omega)
        have y1 : wr.cell? ⟨lb, off + 1 + 4 * k, none⟩ = some (.int .u8 (X (1 + 4 * k) : Int)) := by
          rw [show off + 1 + 4 * k = off + (1 + 4 * k) by omega]
          exact (hst.bel.cell (p := ⟨lb, off + (1 + 4 * k), none⟩) hlb).trans z1
        have HN1 := veil (number1 wr (w.heap.size + 1) lb (off + 1 + 4 * k) (len - 1 - 4 * k) (cap - 1 - 4 * k) (X (1 + 4 * k)) z1' hst.rest hst.rfz (by omega) (by omega) (by omega) y1)
        clear y1 z1 hst
        by_cases hL3 : len - 1 - 4 * k - 1 < 3
        · go_wp2_with (go_at_call 49; refine (HN1.out).mono ?_; rintro e w2 ⟨rfl, a2, hw, _⟩; have HS2 : Hid (St w w2 a2 (len - 1 - 4 * k - 1) (cap - 1 - 4 * k - 1) (.slice va vl vc)) := (by rw [hw]; exact HST.out.setRest _ _ _); clear hw HN1)
          clear HST HO
          have hp2 : w2.drew.cell? ⟨w.heap.size, 0, none⟩ = some (.slice va vl vc) := HS2.out.drew.pc
          have HSD := veil HS2.out.drew
          have HNC := veil (number_cut w2.drew _ _ _ _ 3 HSD.out.rest hL3 (by omega))
          refine wp_region_held_drew (S := fun _ => True) (by kernel_rfl) trivial (fun hHeld => ?_)
          refine wpAnyH_ready (rs := [0, 1, 2]) (by kernel_rfl) (by simp) ?_
          refine AllReadyH.cons rfl (fun K hK => ?_) (AllReadyH.cons rfl (fun K hK => ?_) (AllReadyH.cons rfl (fun K hK => ?_) AllReadyH.nil))
          · skip
            go_simp
            refine hK.out _ _ ?_ (fun hHeld => ?_)
            · trivial
            clear hK K
            try simp only [Act.put, List.setIfInBounds_toArray, List.set_cons_zero, List.set_cons_succ, List.getElem_toArray, List.getElem_cons_succ, List.getElem_cons_zero]
            refine wpAnyH_ready (rs := [1, 2]) (by kernel_rfl) (by simp) ?_
            refine AllReadyH.cons rfl (fun K hK => ?_) (AllReadyH.cons rfl (fun K hK => ?_) AllReadyH.nil)
            · skip
              go_simp
              refine hK.out _ _ ?_ (fun hHeld => ?_)
              · trivial
              clear hK K
              try simp only [Act.put, List.setIfInBounds_toArray, List.set_cons_zero, List.set_cons_succ, List.getElem_toArray, List.getElem_cons_succ, List.getElem_cons_zero]
              refine wpAnyH_ready (rs := [2]) (by kernel_rfl) (by simp) ?_
              refine AllReadyH.cons rfl (fun K hK => ?_) AllReadyH.nil
              go_simp
              refine hK.out _ _ ?_ (fun hHeld => ?_)
              · trivial
              clear hK K
              try simp only [Act.put, List.setIfInBounds_toArray, List.set_cons_zero, List.set_cons_succ, List.getElem_toArray, List.getElem_cons_succ, List.getElem_cons_zero]
              refine wpAnyH_ready (rs := [3]) (by kernel_rfl) (by simp) ?_
              refine AllReadyH.cons rfl (fun K hK => ?_) AllReadyH.nil
              go_simp
              refine (HNC.out).mono ?_
              rintro e w3 ⟨rfl, hw⟩
              replace hw := hw.symm
              subst hw
              dsimp only
              refine leaves_cons (f := 48) (args := #[.pointer (some ⟨w.heap.size, 0, none⟩)]) (by simp) (by simp [go_sem]) ?_
              refine (catch_panicking ⟨w.heap.size, 0, none⟩ _ [] _ HSD.out.pc HSD.out.pfz ⟨_, _, _, rfl⟩).mono ?_
              rintro e u' w'' ⟨rfl, rfl, hw⟩
              replace hw : w'' = caught w _ := hw
              have hcc : w''.cell? ⟨w.heap.size, 0, none⟩ = some (.slice none 0 0) := by rw [hw]; exact caught_cell HSD.out.pc
              have HW := veil hw
              clear hw
              simp [Leaves, settle, results, Try.results47, go_sem, hcc]
              rw [HW.out]
              exact caught_post HSD.out.bel (by omega)
            · skip
              go_simp
              refine hK.out _ _ ?_ (fun hHeld => ?_)
              · trivial
              clear hK K
              try simp only [Act.put, List.setIfInBounds_toArray, List.set_cons_zero, List.set_cons_succ, List.getElem_toArray, List.getElem_cons_succ, List.getElem_cons_zero]
              refine wpAnyH_ready (rs := [1, 3]) (by kernel_rfl) (by simp) ?_
              refine AllReadyH.cons rfl (fun K hK => ?_) (AllReadyH.cons rfl (fun K hK => ?_) AllReadyH.nil)
              · skip
                go_simp
                refine hK.out _ _ ?_ (fun hHeld => ?_)
                · trivial
                clear hK K
                try simp only [Act.put, List.setIfInBounds_toArray, List.set_cons_zero, List.set_cons_succ, List.getElem_toArray, List.getElem_cons_succ, List.getElem_cons_zero]
                refine wpAnyH_ready (rs := [3]) (by kernel_rfl) (by simp) ?_
                refine AllReadyH.cons rfl (fun K hK => ?_) AllReadyH.nil
                go_simp
                refine (HNC.out).mono ?_
                rintro e w3 ⟨rfl, hw⟩
                replace hw := hw.symm
                subst hw
                dsimp only
                refine leaves_cons (f := 48) (args := #[.pointer (some ⟨w.heap.size, 0, none⟩)]) (by simp) (by simp [go_sem]) ?_
                refine (catch_panicking ⟨w.heap.size, 0, none⟩ _ [] _ HSD.out.pc HSD.out.pfz ⟨_, _, _, rfl⟩).mono ?_
                rintro e u' w'' ⟨rfl, rfl, hw⟩
                replace hw : w'' = caught w _ := hw
                have hcc : w''.cell? ⟨w.heap.size, 0, none⟩ = some (.slice none 0 0) := by rw [hw]; exact caught_cell HSD.out.pc
                have HW := veil hw
                clear hw
                simp [Leaves, settle, results, Try.results47, go_sem, hcc]
                rw [HW.out]
                exact caught_post HSD.out.bel (by omega)
              · skip
                go_simp
                refine (HNC.out).mono ?_
                rintro e w3 ⟨rfl, hw⟩
                replace hw := hw.symm
                subst hw
                dsimp only
                refine leaves_cons (f := 48) (args := #[.pointer (some ⟨w.heap.size, 0, none⟩)]) (by simp) (by simp [go_sem]) ?_
                refine (catch_panicking ⟨w.heap.size, 0, none⟩ _ [] _ HSD.out.pc HSD.out.pfz ⟨_, _, _, rfl⟩).mono ?_
                rintro e u' w'' ⟨rfl, rfl, hw⟩
                replace hw : w'' = caught w _ := hw
                have hcc : w''.cell? ⟨w.heap.size, 0, none⟩ = some (.slice none 0 0) := by rw [hw]; exact caught_cell HSD.out.pc
                have HW := veil hw
                clear hw
                simp [Leaves, settle, results, Try.results47, go_sem, hcc]
                rw [HW.out]
                exact caught_post HSD.out.bel (by omega)
          · skip
            go_simp
            refine hK.out _ _ ?_ (fun hHeld => ?_)
            · trivial
            clear hK K
            try simp only [Act.put, List.setIfInBounds_toArray, List.set_cons_zero, List.set_cons_succ, List.getElem_toArray, List.getElem_cons_succ, List.getElem_cons_zero]
            refine wpAnyH_ready (rs := [0, 2]) (by kernel_rfl) (by simp) ?_
            refine AllReadyH.cons rfl (fun K hK => ?_) (AllReadyH.cons rfl (fun K hK => ?_) AllReadyH.nil)
            · skip
              go_simp
              refine hK.out _ _ ?_ (fun hHeld => ?_)
              · trivial
              clear hK K
              try simp only [Act.put, List.setIfInBounds_toArray, List.set_cons_zero, List.set_cons_succ, List.getElem_toArray, List.getElem_cons_succ, List.getElem_cons_zero]
              refine wpAnyH_ready (rs := [2]) (by kernel_rfl) (by simp) ?_
              refine AllReadyH.cons rfl (fun K hK => ?_) AllReadyH.nil
              go_simp
              refine hK.out _ _ ?_ (fun hHeld => ?_)
              · trivial
              clear hK K
              try simp only [Act.put, List.setIfInBounds_toArray, List.set_cons_zero, List.set_cons_succ, List.getElem_toArray, List.getElem_cons_succ, List.getElem_cons_zero]
              refine wpAnyH_ready (rs := [3]) (by kernel_rfl) (by simp) ?_
              refine AllReadyH.cons rfl (fun K hK => ?_) AllReadyH.nil
              go_simp
              refine (HNC.out).mono ?_
              rintro e w3 ⟨rfl, hw⟩
              replace hw := hw.symm
              subst hw
              dsimp only
              refine leaves_cons (f := 48) (args := #[.pointer (some ⟨w.heap.size, 0, none⟩)]) (by simp) (by simp [go_sem]) ?_
              refine (catch_panicking ⟨w.heap.size, 0, none⟩ _ [] _ HSD.out.pc HSD.out.pfz ⟨_, _, _, rfl⟩).mono ?_
              rintro e u' w'' ⟨rfl, rfl, hw⟩
              replace hw : w'' = caught w _ := hw
              have hcc : w''.cell? ⟨w.heap.size, 0, none⟩ = some (.slice none 0 0) := by rw [hw]; exact caught_cell HSD.out.pc
              have HW := veil hw
              clear hw
              simp [Leaves, settle, results, Try.results47, go_sem, hcc]
              rw [HW.out]
              exact caught_post HSD.out.bel (by omega)
            · skip
              go_simp
              refine hK.out _ _ ?_ (fun hHeld => ?_)
              · trivial
              clear hK K
              try simp only [Act.put, List.setIfInBounds_toArray, List.set_cons_zero, List.set_cons_succ, List.getElem_toArray, List.getElem_cons_succ, List.getElem_cons_zero]
              refine wpAnyH_ready (rs := [0, 3]) (by kernel_rfl) (by simp) ?_
              refine AllReadyH.cons rfl (fun K hK => ?_) (AllReadyH.cons rfl (fun K hK => ?_) AllReadyH.nil)
              · skip
                go_simp
                refine hK.out _ _ ?_ (fun hHeld => ?_)
                · trivial
                clear hK K
                try simp only [Act.put, List.setIfInBounds_toArray, List.set_cons_zero, List.set_cons_succ, List.getElem_toArray, List.getElem_cons_succ, List.getElem_cons_zero]
                refine wpAnyH_ready (rs := [3]) (by kernel_rfl) (by simp) ?_
                refine AllReadyH.cons rfl (fun K hK => ?_) AllReadyH.nil
                go_simp
                refine (HNC.out).mono ?_
                rintro e w3 ⟨rfl, hw⟩
                replace hw := hw.symm
                subst hw
                dsimp only
                refine leaves_cons (f := 48) (args := #[.pointer (some ⟨w.heap.size, 0, none⟩)]) (by simp) (by simp [go_sem]) ?_
                refine (catch_panicking ⟨w.heap.size, 0, none⟩ _ [] _ HSD.out.pc HSD.out.pfz ⟨_, _, _, rfl⟩).mono ?_
                rintro e u' w'' ⟨rfl, rfl, hw⟩
                replace hw : w'' = caught w _ := hw
                have hcc : w''.cell? ⟨w.heap.size, 0, none⟩ = some (.slice none 0 0) := by rw [hw]; exact caught_cell HSD.out.pc
                have HW := veil hw
                clear hw
                simp [Leaves, settle, results, Try.results47, go_sem, hcc]
                rw [HW.out]
                exact caught_post HSD.out.bel (by omega)
              · skip
                go_simp
                refine (HNC.out).mono ?_
                rintro e w3 ⟨rfl, hw⟩
                replace hw := hw.symm
                subst hw
                dsimp only
                refine leaves_cons (f := 48) (args := #[.pointer (some ⟨w.heap.size, 0, none⟩)]) (by simp) (by simp [go_sem]) ?_
                refine (catch_panicking ⟨w.heap.size, 0, none⟩ _ [] _ HSD.out.pc HSD.out.pfz ⟨_, _, _, rfl⟩).mono ?_
                rintro e u' w'' ⟨rfl, rfl, hw⟩
                replace hw : w'' = caught w _ := hw
                have hcc : w''.cell? ⟨w.heap.size, 0, none⟩ = some (.slice none 0 0) := by rw [hw]; exact caught_cell HSD.out.pc
                have HW := veil hw
                clear hw
                simp [Leaves, settle, results, Try.results47, go_sem, hcc]
                rw [HW.out]
                exact caught_post HSD.out.bel (by omega)
          · skip
            go_simp
            refine hK.out _ _ ?_ (fun hHeld => ?_)
            · trivial
            clear hK K
            try simp only [Act.put, List.setIfInBounds_toArray, List.set_cons_zero, List.set_cons_succ, List.getElem_toArray, List.getElem_cons_succ, List.getElem_cons_zero]
            refine wpAnyH_ready (rs := [0, 1, 3]) (by kernel_rfl) (by simp) ?_
            refine AllReadyH.cons rfl (fun K hK => ?_) (AllReadyH.cons rfl (fun K hK => ?_) (AllReadyH.cons rfl (fun K hK => ?_) AllReadyH.nil))
            · skip
              go_simp
              refine hK.out _ _ ?_ (fun hHeld => ?_)
              · trivial
              clear hK K
              try simp only [Act.put, List.setIfInBounds_toArray, List.set_cons_zero, List.set_cons_succ, List.getElem_toArray, List.getElem_cons_succ, List.getElem_cons_zero]
              refine wpAnyH_ready (rs := [1, 3]) (by kernel_rfl) (by simp) ?_
              refine AllReadyH.cons rfl (fun K hK => ?_) (AllReadyH.cons rfl (fun K hK => ?_) AllReadyH.nil)
              · skip
                go_simp
                refine hK.out _ _ ?_ (fun hHeld => ?_)
                · trivial
                clear hK K
                try simp only [Act.put, List.setIfInBounds_toArray, List.set_cons_zero, List.set_cons_succ, List.getElem_toArray, List.getElem_cons_succ, List.getElem_cons_zero]
                refine wpAnyH_ready (rs := [3]) (by kernel_rfl) (by simp) ?_
                refine AllReadyH.cons rfl (fun K hK => ?_) AllReadyH.nil
                go_simp
                refine (HNC.out).mono ?_
                rintro e w3 ⟨rfl, hw⟩
                replace hw := hw.symm
                subst hw
                dsimp only
                refine leaves_cons (f := 48) (args := #[.pointer (some ⟨w.heap.size, 0, none⟩)]) (by simp) (by simp [go_sem]) ?_
                refine (catch_panicking ⟨w.heap.size, 0, none⟩ _ [] _ HSD.out.pc HSD.out.pfz ⟨_, _, _, rfl⟩).mono ?_
                rintro e u' w'' ⟨rfl, rfl, hw⟩
                replace hw : w'' = caught w _ := hw
                have hcc : w''.cell? ⟨w.heap.size, 0, none⟩ = some (.slice none 0 0) := by rw [hw]; exact caught_cell HSD.out.pc
                have HW := veil hw
                clear hw
                simp [Leaves, settle, results, Try.results47, go_sem, hcc]
                rw [HW.out]
                exact caught_post HSD.out.bel (by omega)
              · skip
                go_simp
                refine (HNC.out).mono ?_
                rintro e w3 ⟨rfl, hw⟩
                replace hw := hw.symm
                subst hw
                dsimp only
                refine leaves_cons (f := 48) (args := #[.pointer (some ⟨w.heap.size, 0, none⟩)]) (by simp) (by simp [go_sem]) ?_
                refine (catch_panicking ⟨w.heap.size, 0, none⟩ _ [] _ HSD.out.pc HSD.out.pfz ⟨_, _, _, rfl⟩).mono ?_
                rintro e u' w'' ⟨rfl, rfl, hw⟩
                replace hw : w'' = caught w _ := hw
                have hcc : w''.cell? ⟨w.heap.size, 0, none⟩ = some (.slice none 0 0) := by rw [hw]; exact caught_cell HSD.out.pc
                have HW := veil hw
                clear hw
                simp [Leaves, settle, results, Try.results47, go_sem, hcc]
                rw [HW.out]
                exact caught_post HSD.out.bel (by omega)
            · skip
              go_simp
              refine hK.out _ _ ?_ (fun hHeld => ?_)
              · trivial
              clear hK K
              try simp only [Act.put, List.setIfInBounds_toArray, List.set_cons_zero, List.set_cons_succ, List.getElem_toArray, List.getElem_cons_succ, List.getElem_cons_zero]
              refine wpAnyH_ready (rs := [0, 3]) (by kernel_rfl) (by simp) ?_
              refine AllReadyH.cons rfl (fun K hK => ?_) (AllReadyH.cons rfl (fun K hK => ?_) AllReadyH.nil)
              · skip
                go_simp
                refine hK.out _ _ ?_ (fun hHeld => ?_)
                · trivial
                clear hK K
                try simp only [Act.put, List.setIfInBounds_toArray, List.set_cons_zero, List.set_cons_succ, List.getElem_toArray, List.getElem_cons_succ, List.getElem_cons_zero]
                refine wpAnyH_ready (rs := [3]) (by kernel_rfl) (by simp) ?_
                refine AllReadyH.cons rfl (fun K hK => ?_) AllReadyH.nil
                go_simp
                refine (HNC.out).mono ?_
                rintro e w3 ⟨rfl, hw⟩
                replace hw := hw.symm
                subst hw
                dsimp only
                refine leaves_cons (f := 48) (args := #[.pointer (some ⟨w.heap.size, 0, none⟩)]) (by simp) (by simp [go_sem]) ?_
                refine (catch_panicking ⟨w.heap.size, 0, none⟩ _ [] _ HSD.out.pc HSD.out.pfz ⟨_, _, _, rfl⟩).mono ?_
                rintro e u' w'' ⟨rfl, rfl, hw⟩
                replace hw : w'' = caught w _ := hw
                have hcc : w''.cell? ⟨w.heap.size, 0, none⟩ = some (.slice none 0 0) := by rw [hw]; exact caught_cell HSD.out.pc
                have HW := veil hw
                clear hw
                simp [Leaves, settle, results, Try.results47, go_sem, hcc]
                rw [HW.out]
                exact caught_post HSD.out.bel (by omega)
              · skip
                go_simp
                refine (HNC.out).mono ?_
                rintro e w3 ⟨rfl, hw⟩
                replace hw := hw.symm
                subst hw
                dsimp only
                refine leaves_cons (f := 48) (args := #[.pointer (some ⟨w.heap.size, 0, none⟩)]) (by simp) (by simp [go_sem]) ?_
                refine (catch_panicking ⟨w.heap.size, 0, none⟩ _ [] _ HSD.out.pc HSD.out.pfz ⟨_, _, _, rfl⟩).mono ?_
                rintro e u' w'' ⟨rfl, rfl, hw⟩
                replace hw : w'' = caught w _ := hw
                have hcc : w''.cell? ⟨w.heap.size, 0, none⟩ = some (.slice none 0 0) := by rw [hw]; exact caught_cell HSD.out.pc
                have HW := veil hw
                clear hw
                simp [Leaves, settle, results, Try.results47, go_sem, hcc]
                rw [HW.out]
                exact caught_post HSD.out.bel (by omega)
            · skip
              go_simp
              refine (HNC.out).mono ?_
              rintro e w3 ⟨rfl, hw⟩
              replace hw := hw.symm
              subst hw
              dsimp only
              refine leaves_cons (f := 48) (args := #[.pointer (some ⟨w.heap.size, 0, none⟩)]) (by simp) (by simp [go_sem]) ?_
              refine (catch_panicking ⟨w.heap.size, 0, none⟩ _ [] _ HSD.out.pc HSD.out.pfz ⟨_, _, _, rfl⟩).mono ?_
              rintro e u' w'' ⟨rfl, rfl, hw⟩
              replace hw : w'' = caught w _ := hw
              have hcc : w''.cell? ⟨w.heap.size, 0, none⟩ = some (.slice none 0 0) := by rw [hw]; exact caught_cell HSD.out.pc
              have HW := veil hw
              clear hw
              simp [Leaves, settle, results, Try.results47, go_sem, hcc]
              rw [HW.out]
              exact caught_post HSD.out.bel (by omega)
        · obtain ⟨z2, z2'⟩ := hX.out (2 + 4 * k) (by omega)
          obtain ⟨z3, z3'⟩ := hX.out (3 + 4 * k) (by omega)
          obtain ⟨z4, z4'⟩ := hX.out (4 + 4 * k) (by omega)
          have HN3 : Hid (∀ W, St w W ⟨lb, off + 2 + 4 * k, none⟩ (len - 1 - 4 * k - 1) (cap - 1 - 4 * k - 1) (.slice va vl vc) → W.ownsRow (w.heap.size + 2) 64 2 (.slice va vl vc) k (pcells (deO X) (deR X) k) →
              Calls Try.prog 49 #[.pointer (some ⟨w.heap.size + 1, 0, none⟩), .int .i64 3] W fun e W' => e = .returned (.int .i64 (deR X k)) ∧ ∃ a3, (0 < len - 1 - 4 * (k + 1) → a3 = ⟨lb, off + 1 + 4 * (k + 1), none⟩) ∧ St w W' a3 (len - 1 - 4 * (k + 1)) (cap - 1 - 4 * (k + 1)) (.slice va vl vc) ∧ W'.ownsRow (w.heap.size + 2) 64 2 (.slice va vl vc) k (pcells (deO X) (deR X) k)) := by
            intro W hW hO
            have c2 := (hW.bel.cell (p := ⟨lb, off + (2 + 4 * k), none⟩) hlb).trans z2
            have c3 := (hW.bel.cell (p := ⟨lb, off + (3 + 4 * k), none⟩) hlb).trans z3
            have c4 := (hW.bel.cell (p := ⟨lb, off + (4 + 4 * k), none⟩) hlb).trans z4
            rw [show off + (2 + 4 * k) = off + 2 + 4 * k by omega] at c2
            rw [show off + (3 + 4 * k) = off + 2 + 4 * k + 1 by omega] at c3
            rw [show off + (4 + 4 * k) = off + 2 + 4 * k + 2 by omega] at c4
            refine (number3 W (w.heap.size + 1) lb (off + 2 + 4 * k) _ _ _ _ _ z2' z3' z4' hW.rest hW.rfz (by omega) (by omega) (by omega) c2 c3 c4).mono ?_
            rintro e W' ⟨rfl, a3, rfl, ha3⟩
            refine ⟨rfl, a3, fun q => (ha3 (by omega)).trans (by rw [show off + 2 + 4 * k + 3 = off + 1 + 4 * (k + 1) by omega]), ?_, row_set hO _ _ (by simp)⟩
            rw [show len - 1 - 4 * (k + 1) = len - 1 - 4 * k - 1 - 3 by omega, show cap - 1 - 4 * (k + 1) = cap - 1 - 4 * k - 1 - 3 by omega]
            exact hW.setRest a3 _ _
          clear z2 z3 z4
          go_wp2_with (go_at_call 49; refine (HN1.out).mono ?_; rintro e w2 ⟨rfl, a2, hw, ha2⟩; have HS2 : Hid (St w w2 ⟨lb, off + 2 + 4 * k, none⟩ (len - 1 - 4 * k - 1) (cap - 1 - 4 * k - 1) (.slice va vl vc)) := (by have q := ha2 (by omega); rw [show off + 1 + 4 * k + 1 = off + 2 + 4 * k by omega] at q; subst q; rw [hw]; exact HST.out.setRest _ _ _); have HO2 : Hid (w2.ownsRow (w.heap.size + 2) 64 2 (.slice va vl vc) k (pcells (deO X) (deR X) k)) := (by rw [hw]; exact row_set HO.out _ _ (by simp)); clear hw ha2 HN1)
          clear HST HO
          obtain ⟨i0, hi, hz0, hz1, hz2⟩ := info_parts info_instr
          have hp2 : w2.drew.cell? ⟨w.heap.size, 0, none⟩ = some (.slice va vl vc) := HS2.out.drew.pc
          refine wp_region_noPanic ?_
          refine wp_region_held_drew (S := fun _ => True) (by kernel_rfl) trivial (fun hHeld => ?_)
          refine wpAnyH_take (i := 1) (v := ?_) rfl (by kernel_rfl) (by kernel_rfl) (by kernel_rfl) (fun _ _ _ h => h) (Or.inl ⟨by rfl, ?v1⟩) (by assumption) ?_
          case v1 => (intro w hSw; (try dsimp only at hSw); go_simp; try with_reducible rfl)
          try simp only [Act.put, List.setIfInBounds_toArray, List.set_cons_zero, List.set_cons_succ, List.getElem_toArray, List.getElem_cons_succ, List.getElem_cons_zero]
          refine wpAnyH_take (i := 2) (v := ?_) rfl (by kernel_rfl) (by kernel_rfl) (by kernel_rfl) (fun _ _ _ h => h) (Or.inl ⟨by rfl, ?v2⟩) (by assumption) ?_
          case v2 => (intro w hSw; (try dsimp only at hSw); go_simp; try with_reducible rfl)
          try simp only [Act.put, List.setIfInBounds_toArray, List.set_cons_zero, List.set_cons_succ, List.getElem_toArray, List.getElem_cons_succ, List.getElem_cons_zero]
          refine wpAnyH_ready (rs := [0, 3]) (by kernel_rfl) (by simp) ?_
          refine AllReadyH.cons rfl (fun K hK => ?_) (AllReadyH.cons rfl (fun K hK => ?_) AllReadyH.nil)
          · skip
            go_simp
            refine hK.out _ _ ?_ (fun hHeld => ?_)
            · trivial
            clear hK K
            try simp only [Act.put, List.setIfInBounds_toArray, List.set_cons_zero, List.set_cons_succ, List.getElem_toArray, List.getElem_cons_succ, List.getElem_cons_zero]
            refine wpAnyH_ready (rs := [3]) (by kernel_rfl) (by simp) ?_
            refine AllReadyH.cons rfl (fun K hK => ?_) AllReadyH.nil
            go_simp
            refine (HN3.out _ HS2.out.drew HO2.out).mono ?_
            rintro e w3 ⟨rfl, a3, ha3, hs3, ho3⟩
            have HA3 := veil ha3
            have HS3 := veil hs3
            have HO3 := veil ho3
            have hp3 := hs3.pc
            have hp4 := (hs3.alloc (.cells #[.int .i64 (X (1 + 4 * k) : Int), .int .i64 (deR X k)] 64)).pc
            clear ha3 hs3 ho3
            dsimp only
            refine hK.out _ _ ?_ (fun hHeld => ?_)
            · trivial
            clear hK K
            try simp only [Act.put, List.setIfInBounds_toArray, List.set_cons_zero, List.set_cons_succ, List.getElem_toArray, List.getElem_cons_succ, List.getElem_cons_zero]
            refine wpAnyH_take (i := 4) (v := ?_) rfl (by kernel_rfl) (by kernel_rfl) (by kernel_rfl) (fun _ _ _ h => h) (Or.inl ⟨by rfl, ?v4⟩) (by assumption) ?_
            case v4 => (intro w hSw; (try dsimp only at hSw); go_simp; try with_reducible rfl)
            try simp only [Act.put, List.setIfInBounds_toArray, List.set_cons_zero, List.set_cons_succ, List.getElem_toArray, List.getElem_cons_succ, List.getElem_cons_zero]
            refine wpAnyH_ready (rs := [5]) (by kernel_rfl) (by simp) ?_
            refine AllReadyH.cons rfl (fun K hK => ?_) AllReadyH.nil
            go_simp
            refine hK.out _ _ ?_ (fun hHeld => ?_)
            · trivial
            clear hK K
            try simp only [Act.put, List.setIfInBounds_toArray, List.set_cons_zero, List.set_cons_succ, List.getElem_toArray, List.getElem_cons_succ, List.getElem_cons_zero]
            refine wpAnyH_ready (rs := [6]) (by kernel_rfl) (by simp) ?_
            refine AllReadyH.cons rfl (fun K hK => ?_) AllReadyH.nil
            refine step_append_any _ (by rfl) _ _ _ (by rfl) (w.heap.size + 2) 64 i0 (.agg #[.int .i64 0, .int .i64 0]) 2 16 Try.underlying34 hi hz0 hz1 hz2 rfl (by omega) (.slice va vl vc) k _ (by rfl) (World.ownsRow.alloc HO3.out _) ⟨w3.heap.size, 0, none⟩ 1 1 [.int .i64 (X (1 + 4 * k) : Int), .int .i64 (deR X k)] (by rfl) rfl (cell_two_new _ _ _ _) (by simp [Value.oneCell']) (by unfold maxLen; omega) (by omega) (by have := HS3.out.size; simp; omega) ?_
            intro v1 w4 ho4 hg4
            obtain ⟨va4, vl4, vc4, rfl⟩ := row_slice ho4
            have hs4 := (HS3.out.alloc (.cells #[.int .i64 (X (1 + 4 * k) : Int), .int .i64 (deR X k)] 64)).grown hg4 (fun q hq => (HO3.out.lt q hq).1)
            have hp5 := hs4.pc
            have hf5 := hs4.pfz
            have HRD : Hid (Rd w (w4.setCell ⟨w.heap.size, 0, none⟩ (.slice va4 vl4 vc4)) X lb off len cap (k + 1)) := ⟨by omega, a3, va4, vl4, vc4, hs4.setP _, HA3.out, row_set ho4 _ _ (by simp)⟩
            clear ho4 hg4 hs4
            refine hK.out _ _ ?_ (fun hHeld => ?_)
            · trivial
            clear hK K
            try simp only [Act.put, List.setIfInBounds_toArray, List.set_cons_zero, List.set_cons_succ, List.getElem_toArray, List.getElem_cons_succ, List.getElem_cons_zero]
            refine wpAnyH_ready (rs := [7]) (by kernel_rfl) (by simp) ?_
            refine AllReadyH.cons rfl (fun K hK => ?_) AllReadyH.nil
            go_simp
            refine hK.out _ _ ?_ (fun hHeld => ?_)
            · trivial
            clear hK K
            try simp only [Act.put, List.setIfInBounds_toArray, List.set_cons_zero, List.set_cons_succ, List.getElem_toArray, List.getElem_cons_succ, List.getElem_cons_zero]
            refine wpAnyH_done (by kernel_rfl) ?_ _
            refine NoPanic.normal ?_
            go_wp2
            go_roundw
            case rel => exact ⟨k + 1, by omega, by go_num, HRD.out⟩
            case measure => simp [intOf]; omega
          · skip
            go_simp
            refine (HN3.out _ HS2.out.drew HO2.out).mono ?_
            rintro e w3 ⟨rfl, a3, ha3, hs3, ho3⟩
            have HA3 := veil ha3
            have HS3 := veil hs3
            have HO3 := veil ho3
            have hp3 := hs3.pc
            have hp4 := (hs3.alloc (.cells #[.int .i64 (X (1 + 4 * k) : Int), .int .i64 (deR X k)] 64)).pc
            clear ha3 hs3 ho3
            dsimp only
            refine hK.out _ _ ?_ (fun hHeld => ?_)
            · trivial
            clear hK K
            try simp only [Act.put, List.setIfInBounds_toArray, List.set_cons_zero, List.set_cons_succ, List.getElem_toArray, List.getElem_cons_succ, List.getElem_cons_zero]
            refine wpAnyH_take (i := 4) (v := ?_) rfl (by kernel_rfl) (by kernel_rfl) (by kernel_rfl) (fun _ _ _ h => h) (Or.inl ⟨by rfl, ?v4⟩) (by assumption) ?_
            case v4 => (intro w hSw; (try dsimp only at hSw); go_simp; try with_reducible rfl)
            try simp only [Act.put, List.setIfInBounds_toArray, List.set_cons_zero, List.set_cons_succ, List.getElem_toArray, List.getElem_cons_succ, List.getElem_cons_zero]
            refine wpAnyH_ready (rs := [0, 5]) (by kernel_rfl) (by simp) ?_
            refine AllReadyH.cons rfl (fun K hK => ?_) (AllReadyH.cons rfl (fun K hK => ?_) AllReadyH.nil)
            · skip
              go_simp
              refine hK.out _ _ ?_ (fun hHeld => ?_)
              · trivial
              clear hK K
              try simp only [Act.put, List.setIfInBounds_toArray, List.set_cons_zero, List.set_cons_succ, List.getElem_toArray, List.getElem_cons_succ, List.getElem_cons_zero]
              refine wpAnyH_ready (rs := [5]) (by kernel_rfl) (by simp) ?_
              refine AllReadyH.cons rfl (fun K hK => ?_) AllReadyH.nil
              go_simp
              refine hK.out _ _ ?_ (fun hHeld => ?_)
              · trivial
              clear hK K
              try simp only [Act.put, List.setIfInBounds_toArray, List.set_cons_zero, List.set_cons_succ, List.getElem_toArray, List.getElem_cons_succ, List.getElem_cons_zero]
              refine wpAnyH_ready (rs := [6]) (by kernel_rfl) (by simp) ?_
              refine AllReadyH.cons rfl (fun K hK => ?_) AllReadyH.nil
              refine step_append_any _ (by rfl) _ _ _ (by rfl) (w.heap.size + 2) 64 i0 (.agg #[.int .i64 0, .int .i64 0]) 2 16 Try.underlying34 hi hz0 hz1 hz2 rfl (by omega) (.slice va vl vc) k _ (by rfl) (World.ownsRow.alloc HO3.out _) ⟨w3.heap.size, 0, none⟩ 1 1 [.int .i64 (X (1 + 4 * k) : Int), .int .i64 (deR X k)] (by rfl) rfl (cell_two_new _ _ _ _) (by simp [Value.oneCell']) (by unfold maxLen; omega) (by omega) (by have := HS3.out.size; simp; omega) ?_
              intro v1 w4 ho4 hg4
              obtain ⟨va4, vl4, vc4, rfl⟩ := row_slice ho4
              have hs4 := (HS3.out.alloc (.cells #[.int .i64 (X (1 + 4 * k) : Int), .int .i64 (deR X k)] 64)).grown hg4 (fun q hq => (HO3.out.lt q hq).1)
              have hp5 := hs4.pc
              have hf5 := hs4.pfz
              have HRD : Hid (Rd w (w4.setCell ⟨w.heap.size, 0, none⟩ (.slice va4 vl4 vc4)) X lb off len cap (k + 1)) := ⟨by omega, a3, va4, vl4, vc4, hs4.setP _, HA3.out, row_set ho4 _ _ (by simp)⟩
              clear ho4 hg4 hs4
              refine hK.out _ _ ?_ (fun hHeld => ?_)
              · trivial
              clear hK K
              try simp only [Act.put, List.setIfInBounds_toArray, List.set_cons_zero, List.set_cons_succ, List.getElem_toArray, List.getElem_cons_succ, List.getElem_cons_zero]
              refine wpAnyH_ready (rs := [7]) (by kernel_rfl) (by simp) ?_
              refine AllReadyH.cons rfl (fun K hK => ?_) AllReadyH.nil
              go_simp
              refine hK.out _ _ ?_ (fun hHeld => ?_)
              · trivial
              clear hK K
              try simp only [Act.put, List.setIfInBounds_toArray, List.set_cons_zero, List.set_cons_succ, List.getElem_toArray, List.getElem_cons_succ, List.getElem_cons_zero]
              refine wpAnyH_done (by kernel_rfl) ?_ _
              refine NoPanic.normal ?_
              go_wp2
              go_roundw
              case rel => exact ⟨k + 1, by omega, by go_num, HRD.out⟩
              case measure => simp [intOf]; omega
            · skip
              go_simp
              refine hK.out _ _ ?_ (fun hHeld => ?_)
              · trivial
              clear hK K
              try simp only [Act.put, List.setIfInBounds_toArray, List.set_cons_zero, List.set_cons_succ, List.getElem_toArray, List.getElem_cons_succ, List.getElem_cons_zero]
              refine wpAnyH_ready (rs := [0]) (by kernel_rfl) (by simp) ?_
              refine AllReadyH.cons rfl (fun K hK => ?_) AllReadyH.nil
              go_simp
              refine hK.out _ _ ?_ (fun hHeld => ?_)
              · trivial
              clear hK K
              try simp only [Act.put, List.setIfInBounds_toArray, List.set_cons_zero, List.set_cons_succ, List.getElem_toArray, List.getElem_cons_succ, List.getElem_cons_zero]
              refine wpAnyH_ready (rs := [6]) (by kernel_rfl) (by simp) ?_
              refine AllReadyH.cons rfl (fun K hK => ?_) AllReadyH.nil
              refine step_append_any _ (by rfl) _ _ _ (by rfl) (w.heap.size + 2) 64 i0 (.agg #[.int .i64 0, .int .i64 0]) 2 16 Try.underlying34 hi hz0 hz1 hz2 rfl (by omega) (.slice va vl vc) k _ (by rfl) (World.ownsRow.alloc HO3.out _) ⟨w3.heap.size, 0, none⟩ 1 1 [.int .i64 (X (1 + 4 * k) : Int), .int .i64 (deR X k)] (by rfl) rfl (cell_two_new _ _ _ _) (by simp [Value.oneCell']) (by unfold maxLen; omega) (by omega) (by have := HS3.out.size; simp; omega) ?_
              intro v1 w4 ho4 hg4
              obtain ⟨va4, vl4, vc4, rfl⟩ := row_slice ho4
              have hs4 := (HS3.out.alloc (.cells #[.int .i64 (X (1 + 4 * k) : Int), .int .i64 (deR X k)] 64)).grown hg4 (fun q hq => (HO3.out.lt q hq).1)
              have hp5 := hs4.pc
              have hf5 := hs4.pfz
              have HRD : Hid (Rd w (w4.setCell ⟨w.heap.size, 0, none⟩ (.slice va4 vl4 vc4)) X lb off len cap (k + 1)) := ⟨by omega, a3, va4, vl4, vc4, hs4.setP _, HA3.out, row_set ho4 _ _ (by simp)⟩
              clear ho4 hg4 hs4
              refine hK.out _ _ ?_ (fun hHeld => ?_)
              · trivial
              clear hK K
              try simp only [Act.put, List.setIfInBounds_toArray, List.set_cons_zero, List.set_cons_succ, List.getElem_toArray, List.getElem_cons_succ, List.getElem_cons_zero]
              refine wpAnyH_ready (rs := [7]) (by kernel_rfl) (by simp) ?_
              refine AllReadyH.cons rfl (fun K hK => ?_) AllReadyH.nil
              go_simp
              refine hK.out _ _ ?_ (fun hHeld => ?_)
              · trivial
              clear hK K
              try simp only [Act.put, List.setIfInBounds_toArray, List.set_cons_zero, List.set_cons_succ, List.getElem_toArray, List.getElem_cons_succ, List.getElem_cons_zero]
              refine wpAnyH_done (by kernel_rfl) ?_ _
              refine NoPanic.normal ?_
              go_wp2
              go_roundw
              case rel => exact ⟨k + 1, by omega, by go_num, HRD.out⟩
              case measure => simp [intOf]; omega
    · have hkx' : ¬ (k : Int) < (X 0 : Int) := by omega
      obtain rfl : k = X 0 := by omega
      by_cases hL : 0 < len - 1 - 4 * X 0
      · have HEM := veil (end_more wr _ _ _ _ hL HST.out.rest)
        go_wp2_with (go_at_call 50; refine (HEM.out).mono ?_; rintro e w2 ⟨rfl, hw⟩; replace hw := hw.symm; subst hw)
        refine leaves_cons (f := 48) (args := #[.pointer (some ⟨w.heap.size, 0, none⟩)]) (by simp) (by simp [go_sem]) ?_
        refine (catch_panicking ⟨w.heap.size, 0, none⟩ _ [] _ HST.out.pc HST.out.pfz ⟨_, _, _, rfl⟩).mono ?_
        rintro e u' w'' ⟨rfl, rfl, hw⟩
        replace hw : w'' = caught w _ := hw
        have hcc : w''.cell? ⟨w.heap.size, 0, none⟩ = some (.slice none 0 0) := by rw [hw]; exact caught_cell HST.out.pc
        have HW := veil hw
        clear hw
        simp [Leaves, settle, results, Try.results47, go_sem, hcc]
        rw [HW.out]
        exact caught_post HST.out.bel (by omega)
      · have hre := HST.out.rest
        rw [show len - 1 - 4 * X 0 = 0 by omega] at hre
        have HE := veil (end_ok wr _ _ _ hre)
        have hpc := HST.out.pc
        have hpf := HST.out.pfz
        have HPost : Hid (ReadPost w X len (.slice va vl vc) (wr.setCell ⟨w.heap.size, 0, none⟩ (.slice va vl vc))) :=
          ⟨(HST.out.setP _).bel, .inl ⟨by omega, row_low (row_set HO.out _ _ (by simp)) (by omega)⟩⟩
        clear hre
        go_wp2_with (go_at_call 50; refine (HE.out).mono ?_; rintro e w2 ⟨rfl, hw⟩; replace hw := hw.symm; subst hw)
        refine leaves_cons (f := 48) (args := #[.pointer (some ⟨w.heap.size, 0, none⟩)]) (by simp) (by simp [go_sem]) ?_
        refine (catch_idle ⟨w.heap.size, 0, none⟩ _).mono ?_
        rintro e u' w'' ⟨rfl, rfl, rfl⟩
        have hcc : (wr.setCell ⟨w.heap.size, 0, none⟩ (.slice va vl vc)).cell? ⟨w.heap.size, 0, none⟩ = some (.slice va vl vc) := World.cell?_setCell_same _ _ _ hpc
        simp [Leaves, settle, results, Try.results47, go_sem, hcc]
        exact HPost.out
end Go.Proofs.Ytnnpbbiiapipaaa
