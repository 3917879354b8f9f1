/- The program's walks: Admit. -/
import Derived.Test.YtblickncecpajaaC5
namespace Go.Proofs.Ytblickncecpajaa
open Go.RowKit Go.Lib
set_option linter.unusedVariables false
theorem infoServer : (Try.prog.info? 69).map (fun i => (i.zero, i.size, i.bytes)) = some (some (.agg #[.int .u64 0, .int .u64 0, .int .u64 0, .int .u64 0]), 4, 32) := by kernel_rfl
theorem right_iff (b p : Nat) : rightB b p = true ↔ (⟨b, p, 0, 0⟩ : Srv).ok := by
  unfold rightB Srv.ok
  simp
@[go_sem] theorem buildT (a b : Int) (w : World) : (Instr.build 67 #[(0, .int .u64 a), (1, .int .u64 b)]).run Try.prog w = .ok (.agg #[.int .u64 a, .int .u64 b]) w := run_build w 67 _ _ (by kernel_rfl)
@[go_sem] theorem buildS (a b : Int) (w : World) : (Instr.build 69 #[(0, .agg #[.int .u64 a, .int .u64 b])]).run Try.prog w = .ok (.agg #[.int .u64 a, .int .u64 b, .int .u64 0, .int .u64 0]) w := run_build w 69 _ _ (by kernel_rfl)
theorem keepc {w w1 w2 : World} {a0 a1 a2 a3 : Addr} {u0 u1 u2 u3 : Value} (h : w1.cell? a0 = some u0 ∧ w1.cell? a1 = some u1 ∧ w1.cell? a2 = some u2 ∧ w1.cell? a3 = some u3 ∧ Below w.heap.size w w1) (hb : Below w1.heap.size w1 w2) :
    w2.cell? a0 = some u0 ∧ w2.cell? a1 = some u1 ∧ w2.cell? a2 = some u2 ∧ w2.cell? a3 = some u3 ∧ Below w.heap.size w w2 := by
  obtain ⟨h0, h1, h2, h3, h4⟩ := h
  exact ⟨(hb.cell (World.block_lt_of_cell? w1 _ h0)).trans h0, (hb.cell (World.block_lt_of_cell? w1 _ h1)).trans h1, (hb.cell (World.block_lt_of_cell? w1 _ h2)).trans h2, (hb.cell (World.block_lt_of_cell? w1 _ h3)).trans h3, h4.trans (hb.mono h4.size)⟩
section
variable {w : World} {base s P : Nat} {v : Value} {L : List Srv}
theorem admit_range (h : Pep w base s P v L) (b p : Nat) (hr : rightB b p = false) : Calls Try.prog 14 #[.pointer (some ⟨s, 0, none⟩), .int .u64 (b : Int), .int .u64 (p : Int)] w fun e w' => e = .returned (.tuple #[.int .i64 0, .int .i64 2]) ∧ Below w.heap.size w w' := by
  have HR := veil (fun w => right_ok w b p)
  simp only [hr] at HR
  clear h
  go_enter Try.func14, Try.ntmps14
  go_wp2_with (go_at_call 35; refine (HR.out _).mono ?_; rintro e w1 ⟨rfl, c, rfl⟩)
  go_ret2
  exact ⟨rfl, (((Below.refl _ _).alloc (Nat.le_refl _) _).alloc (by simp) _)⟩
theorem admit_full (h : Pep w base s P v L) (b p : Nat) (hr : rightB b p = true) (hl : L.length = 32) : Calls Try.prog 14 #[.pointer (some ⟨s, 0, none⟩), .int .u64 (b : Int), .int .u64 (p : Int)] w fun e w' => e = .returned (.tuple #[.int .i64 0, .int .i64 4]) ∧ Below w.heap.size w w' := by
  have HR := veil (fun w => right_ok w b p)
  simp only [hr] at HR
  obtain ⟨a, cap, rfl, _, _⟩ := h.form
  have c1 := h.c1
  rw [hl] at c1
  have hs := h.lt
  clear h
  go_enter Try.func14, Try.ntmps14
  go_wp2_with (go_at_call 35; refine (HR.out _).mono ?_; rintro e w1 ⟨rfl, c, rfl⟩)
  go_ret2
  exact ⟨rfl, (((Below.refl _ _).alloc (Nat.le_refl _) _).alloc (by simp) _)⟩
theorem step_append_any {P : Program} (w : World) {ops : Array Oper} {o : Oper} {a : Act} {K : Act → World → Prop} {Q : Exit → Act → World → Prop} {E : Prop} (hgd : o.guard = none) (s x : Operand) (t : TypeId)
    (ho : o.op = .call { callee := .builtin .append, args := #[s, x], argTypes := #[t, t] })
    (base : Nat) (e : TypeId) (i : TypeInfo) (z : Value) (size bytes : Nat) (ht : P.underlying t = some (.slice e)) (hi : P.info? e = some i) (hz : i.zero = some z)
    (hsize : i.size = size) (hby : i.bytes = bytes) (hzs : z.cells.size = size) (hsz : 0 < size)
    (v : Value) (n : Nat) (xs : List Value) (hs : a.eval s = v) (hown : w.ownsRow base e size v n xs)
    (ad : Addr) (m c : Nat) (news : List Value) (hx : a.eval x = .slice (some ad) m c) (hl : news.length = m * size) (hnews : ∀ j u, news[j]? = some u → w.cell? (ad.add j) = some u) (h1 : ∀ u ∈ news, u.oneCell' = true)
    (h63 : n + m ≤ maxLen) (hbytes : (n + m) * bytes ≤ 140737488355328) (hbase : base ≤ w.heap.size)
    (h : ∀ v' w', w'.ownsRow base e size v' (n + m) (xs ++ news) → w.grownBy w' v.ownBlock → K (a.put o.dst v') w') :
    if Region.wanted o (yielded ops a.tmps) = true then Oper.wp P o a w K Q else E := by
  have hw : Region.wanted o (yielded ops a.tmps) = true := by simp [Region.wanted, hgd]
  rw [if_pos hw]
  exact wp_append_own w s x t ho base e i z size bytes ht hi hz hsize hby hzs hsz v n xs hs hown ad m c news hx hl hnews h1 h63 hbytes hbase fun v' w' h2 h3 _ => h v' w' h2 h3
theorem owns_slice {w : World} {base : Nat} {e : TypeId} {size : Nat} {v : Value} {n : Nat} {xs : List Value} (h : w.ownsRow base e size v n xs) : ∃ a cap, v = .slice a n cap := by
  rcases h.2 with ⟨rfl, rfl⟩ | ⟨g, cap, cur, rfl, _⟩
  · exact ⟨none, 0, rfl⟩
  · exact ⟨_, cap, rfl⟩
theorem info_parts {P : Program} {e : TypeId} {z : Value} {n m : Nat} (h : (P.info? e).map (fun i => (i.zero, i.size, i.bytes)) = some (some z, n, m)) : ∃ i, P.info? e = some i ∧ i.zero = some z ∧ i.size = n ∧ i.bytes = m := by
  cases hh : P.info? e with
  | none => rw [hh] at h; cases h
  | some i =>
    rw [hh] at h
    simp at h
    exact ⟨i, rfl, h.1, h.2.1, h.2.2⟩
theorem pone_one (x : Srv) : ∀ u ∈ pone x, u.oneCell' = true := by
  intro u hu
  simp [pone] at hu
  rcases hu with rfl | rfl | rfl | rfl <;> rfl
theorem news_of {w1 W : World} {c : List Value} {t : TypeId} (h : W.heap = (w1.alloc (.cells c.toArray t)).heap) : ∀ j u, c[j]? = some u → W.cell? ((⟨w1.heap.size, 0, none⟩ : Addr).add j) = some u := by
  intro j u hu
  have hb : W.heap[w1.heap.size]? = some (.cells c.toArray t) := by rw [h]; exact (MapKept.heap_alloc w1 _).1
  exact World.news_of_block (cs := c.toArray) hb j u (by simpa using hu)
/-- One more: how it lies behind the append and the store. -/
theorem Pep.more (h : Pep w base s P v L) (x : Srv) (hx : x.ok) (hl : L.length < 32) {w1 : World} (hb : Below w.heap.size w w1) {o : Obj} :
    ∀ (W w2 : World) (v1 : Value), W.grownBy w2 v.ownBlock → w2.ownsRow base 69 4 v1 (L.length + 1) (pcells L ++ pone x) → W.heap = (w1.alloc o).heap → W.os = w1.os → W.tape = w1.tape → W.output = w1.output →
    w2.cell? ⟨s, 1, none⟩ = some v ∧ w2.frozen? ⟨s, 1, none⟩ = false ∧ Pep (w2.setCell ⟨s, 1, none⟩ v1) base s P v1 (L ++ [x]) ∧ Fr (fun k => k = s ∨ some k = v.ownBlock) w (w2.setCell ⟨s, 1, none⟩ v1) := by
  intro W w2 v1 hg ho hW h1 h2 h3
  have hbW : Below w.heap.size w W := by
    have q := hb.alloc hb.size o
    exact ⟨h1.trans q.os, h2.trans q.tape, h3.trans q.output, by rw [hW]; exact q.size, fun k hk => by rw [hW]; exact q.block k hk⟩
  have hpW := h.below hbW
  have hsW := hpW.lt
  have hbl : w2.heap[s]? = W.heap[s]? := hg.block s hsW (fun q => hpW.ne q.symm)
  have hb2 := hbl.trans hpW.blk
  have hsz : W.heap.size ≤ w2.heap.size := hg.size
  refine ⟨by unfold World.cell?; simp [hb2], by unfold World.frozen?; simp [hb2], ?_, ?_⟩
  · refine Pep.stored hb2 (by rw [pcells_append, List.length_append]; simpa [pcells] using ho) (Nat.le_trans hpW.bs hsz) ⟨h.f.p1, h.f.p2, ?_, by simp; omega⟩
    intro y hy
    rcases List.mem_append.1 hy with q | q
    · exact h.f.all y q
    · simp at q; rw [q]; exact hx
  · have f1 : Fr (fun k => k = s ∨ some k = v.ownBlock) W w2 := (Fr.of_grown hg).wide (fun k _ q => .inr q)
    exact ((Fr.of_below' hbW).trans f1).setCell (a := ⟨s, 1, none⟩) (.inl rfl) _
theorem tstart {w : World} {s : Nat} {u v c0 c1 : Value} {c : Array Value} {t : TypeId} (h : w.cell? ⟨s, 0, none⟩ = some u ∧ w.cell? ⟨s, 1, none⟩ = some v) :
    ((w.alloc (.cells #[c0, c1] t)).alloc (.cells c t)).drew.cell? ⟨w.heap.size, 0, none⟩ = some c0 ∧ ((w.alloc (.cells #[c0, c1] t)).alloc (.cells c t)).drew.cell? ⟨w.heap.size, 1, none⟩ = some c1 ∧ ((w.alloc (.cells #[c0, c1] t)).alloc (.cells c t)).drew.cell? ⟨s, 0, none⟩ = some u ∧ ((w.alloc (.cells #[c0, c1] t)).alloc (.cells c t)).drew.cell? ⟨s, 1, none⟩ = some v ∧ Below w.heap.size w ((w.alloc (.cells #[c0, c1] t)).alloc (.cells c t)).drew := by
  have hb : Below (w.heap.size + 1) (w.alloc (.cells #[c0, c1] t)) ((w.alloc (.cells #[c0, c1] t)).alloc (.cells c t)).drew := ((Below.refl _ _).alloc (by simp) _).drew
  have hb0 : Below w.heap.size w (w.alloc (.cells #[c0, c1] t)) := (Below.refl _ _).alloc (Nat.le_refl _) _
  have hz := hb0.trans (hb.mono (by omega))
  exact ⟨(hb.cell (p := ⟨w.heap.size, 0, none⟩) (by simp)).trans (by unfold World.cell?; simp only [(MapKept.heap_alloc w _).1]; rfl), (hb.cell (p := ⟨w.heap.size, 1, none⟩) (by simp)).trans (by unfold World.cell?; simp only [(MapKept.heap_alloc w _).1]; rfl),
    (hz.cell (World.block_lt_of_cell? w _ h.1)).trans h.1, (hz.cell (World.block_lt_of_cell? w _ h.2)).trans h.2, hz⟩
theorem keepb {w w1 : World} {p0 p1 p2 p3 : Prop} (h : p0 ∧ p1 ∧ p2 ∧ p3 ∧ Below w.heap.size w w1) : Below w.heap.size w w1 := h.2.2.2.2
theorem below_ad {w w1 : World} {c : Array Value} {t : TypeId} (h : w1 = (w.alloc (.cells c t)).drew) : Below w.heap.size w w1 := by rw [h]; exact ((Below.refl _ _).alloc (Nat.le_refl _) _).drew
set_option maxHeartbeats 1000000 in
theorem admit_load (h : Pep w base s P v L) (b p : Nat) (hr : rightB b p = true) (hl : L.length < 32) (hq : P * 232792560 < sumOf L + asks ⟨b, p, 0, 0⟩) : Calls Try.prog 14 #[.pointer (some ⟨s, 0, none⟩), .int .u64 (b : Int), .int .u64 (p : Int)] w fun e w' => e = .returned (.tuple #[.int .i64 0, .int .i64 10]) ∧ Below w.heap.size w w' := by
  have HR := veil (fun w => right_ok w b p)
  simp only [hr] at HR
  have hok := (right_iff b p).1 hr
  have HK := veil (fun w => asks_ok w ⟨b, p, 0, 0⟩ hok)
  have HS : Hid (∀ w1, Below w.heap.size w w1 → Calls Try.prog 33 #[.pointer (some ⟨s, 0, none⟩)] w1 fun e w' => e = .returned (.int .u64 (sumOf L : Int)) ∧ Below w1.heap.size w1 w') := fun w1 hb => sum_ok (h.below hb)
  obtain ⟨a, cap, rfl, _, _⟩ := h.form
  have c0 := h.c0
  have c1 := h.c1
  have hs := h.lt
  have n1 : ¬ (L.length : Int) = 32 := by omega
  have n2 : ¬ L.length = 32 := by omega
  have q1 := sum_le h.f.all
  have q2 := asks_le hok
  have q3 := h.f.p2
  have HI : Hid (w.cell? ⟨s, 0, none⟩ = some (.int .u64 (P : Int)) ∧ w.cell? ⟨s, 1, none⟩ = some (.slice a L.length cap)) := ⟨c0, c1⟩
  generalize asks ⟨b, p, 0, 0⟩ = q at HK hq q2
  generalize sumOf L = z at HS hq q1
  have e1 : IntKind.u64.wrap ((z : Int) + (q : Int)) = ((z + q : Nat) : Int) := by rw [wrapU _ (by omega) (by omega)]; simp
  have e2 : IntKind.u64.wrap ((P : Int) * 232792560) = ((P * 232792560 : Nat) : Int) := by rw [wrapU _ (by omega) (by omega)]; simp
  have e3 : ((P * 232792560 : Nat) : Int) < ((z + q : Nat) : Int) := by omega
  clear h hr hq q1 q2 q3
  go_enter Try.func14, Try.ntmps14
  go_wp2_with (go_at_call 35; refine (HR.out _).mono ?_; rintro e w1 ⟨rfl, c, rfl⟩)
  go_region_held3 (fun w' => w'.cell? ⟨w.heap.size, 0, none⟩ = some (.int .u64 (b : Int)) ∧ w'.cell? ⟨w.heap.size, 1, none⟩ = some (.int .u64 (p : Int)) ∧ w'.cell? ⟨s, 0, none⟩ = some (.int .u64 (P : Int)) ∧ w'.cell? ⟨s, 1, none⟩ = some (.slice a L.length cap) ∧ Below w.heap.size w w')
    (first | exact tstart HI.out | exact keepc (by assumption) hb)
    (first
      | (go_at_call 33; refine (HS.out _ (keepb (by assumption))).mono ?_; rintro e w1 ⟨rfl, hb⟩)
      | (go_at_call 36; refine (HK.out _).mono ?_; rintro e w1 ⟨rfl, c', hw⟩; have hb := below_ad hw; clear hw))
  go_wp2
  go_ret2
  exact ⟨rfl, keepb (by assumption)⟩
set_option maxHeartbeats 1000000 in
theorem admit_ok (h : Pep w base s P v L) (b p : Nat) (hr : rightB b p = true) (hl : L.length < 32) (hq : ¬ P * 232792560 < sumOf L + asks ⟨b, p, 0, 0⟩) : Calls Try.prog 14 #[.pointer (some ⟨s, 0, none⟩), .int .u64 (b : Int), .int .u64 (p : Int)] w fun e w' => e = .returned (.tuple #[.int .i64 (L.length : Int), .int .i64 0]) ∧ (∃ v', Pep w' base s P v' (L ++ [⟨b, p, 0, 0⟩])) ∧ Fr (fun k => k = s ∨ some k = v.ownBlock) w w' := by
  have HR := veil (fun w => right_ok w b p)
  simp only [hr] at HR
  have hok := (right_iff b p).1 hr
  have HK := veil (fun w => asks_ok w ⟨b, p, 0, 0⟩ hok)
  have HS : Hid (∀ w1, Below w.heap.size w w1 → Calls Try.prog 33 #[.pointer (some ⟨s, 0, none⟩)] w1 fun e w' => e = .returned (.int .u64 (sumOf L : Int)) ∧ Below w1.heap.size w1 w') := fun w1 hb => sum_ok (h.below hb)
  obtain ⟨a, cap, rfl, _, _⟩ := h.form
  have c0 := h.c0
  have c1 := h.c1
  have hs := h.lt
  have n1 : ¬ (L.length : Int) = 32 := by omega
  have n2 : ¬ L.length = 32 := by omega
  have q1 := sum_le h.f.all
  have q2 := asks_le hok
  have q3 := h.f.p2
  have HI : Hid (w.cell? ⟨s, 0, none⟩ = some (.int .u64 (P : Int)) ∧ w.cell? ⟨s, 1, none⟩ = some (.slice a L.length cap)) := ⟨c0, c1⟩
  generalize asks ⟨b, p, 0, 0⟩ = q at HK hq q2
  generalize sumOf L = z at HS hq q1
  have e1 : IntKind.u64.wrap ((z : Int) + (q : Int)) = ((z + q : Nat) : Int) := by rw [wrapU _ (by omega) (by omega)]; simp
  have e2 : IntKind.u64.wrap ((P : Int) * 232792560) = ((P * 232792560 : Nat) : Int) := by rw [wrapU _ (by omega) (by omega)]; simp
  have e3 : ¬ ((P * 232792560 : Nat) : Int) < ((z + q : Nat) : Int) := by omega
  have HPP := veil h
  clear h hr hq q1 q2 q3
  go_enter Try.func14, Try.ntmps14
  go_wp2_with (go_at_call 35; refine (HR.out _).mono ?_; rintro e w1 ⟨rfl, c, rfl⟩)
  go_region_held3 (fun w' => w'.cell? ⟨w.heap.size, 0, none⟩ = some (.int .u64 (b : Int)) ∧ w'.cell? ⟨w.heap.size, 1, none⟩ = some (.int .u64 (p : Int)) ∧ w'.cell? ⟨s, 0, none⟩ = some (.int .u64 (P : Int)) ∧ w'.cell? ⟨s, 1, none⟩ = some (.slice a L.length cap) ∧ Below w.heap.size w w')
    (first | exact tstart HI.out | exact keepc (by assumption) hb)
    (first
      | (go_at_call 33; refine (HS.out _ (keepb (by assumption))).mono ?_; rintro e w1 ⟨rfl, hb⟩)
      | (go_at_call 36; refine (HK.out _).mono ?_; rintro e w1 ⟨rfl, c', hw⟩; have hb := below_ad hw; clear hw))
  rename_i hS
  obtain ⟨t0, t1, t2, t3, hbw⟩ := hS
  have hs1 : s < w1.heap.size := Nat.lt_of_lt_of_le hs hbw.size
  have c1a : ∀ o, (w1.alloc o).cell? ⟨s, 1, none⟩ = some (.slice a L.length cap) := fun o => (Below.cell ((Below.refl w1.heap.size w1).alloc (Nat.le_refl _) o) hs1).trans t3
  have HEND := veil (HPP.out.more ⟨b, p, 0, 0⟩ hok hl hbw (o := .cells (pone ⟨b, p, 0, 0⟩).toArray 69))
  have HOW : Hid (∀ W : World, W.heap = (w1.alloc (.cells (pone ⟨b, p, 0, 0⟩).toArray 69)).heap → W.ownsRow base 69 4 (.slice a L.length cap) L.length (pcells L)) := fun W hW => ((HPP.out.below (hbw.alloc hbw.size _)).like hW).own
  have HNW : Hid (∀ W : World, W.heap = (w1.alloc (.cells (pone ⟨b, p, 0, 0⟩).toArray 69)).heap → ∀ j u, (pone ⟨b, p, 0, 0⟩)[j]? = some u → W.cell? ((⟨w1.heap.size, 0, none⟩ : Addr).add j) = some u) := fun W hW => news_of hW
  have HBS : Hid (∀ W : World, W.heap = (w1.alloc (.cells (pone ⟨b, p, 0, 0⟩).toArray 69)).heap → base ≤ W.heap.size) := fun W hW => ((HPP.out.below (hbw.alloc hbw.size _)).like hW).bs
  obtain ⟨i0, hi0, hz0, hz1, hz2⟩ := info_parts infoServer
  clear HPP hbw hok HI HS HK HR
  go_wp2
  refine wp_region_held_drew (S := (fun _ => True)) (by kernel_rfl) ?_ (fun hHeld => ?_)
  · trivial
  refine wpAnyH_take (i := 0) (v := ?_) rfl (by kernel_rfl) (by kernel_rfl) (by kernel_rfl) (fun _ _ _ h => h) (Or.inl ⟨by rfl, ?v0⟩) (by assumption) ?_
  case v0 => (intro w hSw; (try dsimp only at hSw); go_simp; try with_reducible rfl)
  try simp only [Act.put, List.setIfInBounds_toArray, List.set_cons_zero, List.set_cons_succ, List.getElem_toArray, List.getElem_cons_zero]
  refine wpAnyH_take (i := 1) (v := ?_) rfl (by kernel_rfl) (by kernel_rfl) (by kernel_rfl) (fun _ _ _ h => h) (Or.inl ⟨by rfl, ?v1⟩) (by assumption) ?_
  case v1 => (intro w hSw; (try dsimp only at hSw); go_simp; try with_reducible rfl)
  try simp only [Act.put, List.setIfInBounds_toArray, List.set_cons_zero, List.set_cons_succ, List.getElem_toArray, List.getElem_cons_succ, List.getElem_cons_zero]
  refine wpAnyH_take (i := 2) (v := ?_) rfl (by kernel_rfl) (by kernel_rfl) (by kernel_rfl) (fun _ _ _ h => h) (Or.inl ⟨by rfl, ?v2⟩) (by assumption) ?_
  case v2 => (intro w hSw; (try dsimp only at hSw); go_simp; try with_reducible rfl)
  try simp only [Act.put, List.setIfInBounds_toArray, List.set_cons_zero, List.set_cons_succ, List.getElem_toArray, List.getElem_cons_succ, List.getElem_cons_zero]
  refine wpAnyH_take (i := 3) (v := ?_) rfl (by kernel_rfl) (by kernel_rfl) (by kernel_rfl) (fun _ _ _ h => h) (Or.inl ⟨by rfl, ?v3⟩) (by assumption) ?_
  case v3 => (intro w hSw; (try dsimp only at hSw); go_simp; try with_reducible rfl)
  try simp only [Act.put, List.setIfInBounds_toArray, List.set_cons_zero, List.set_cons_succ, List.getElem_toArray, List.getElem_cons_succ, List.getElem_cons_zero]
  refine wpAnyH_ready (rs := [4, 5]) (by kernel_rfl) (by simp) ?_
  refine AllReadyH.cons rfl (fun K hK => ?_) (AllReadyH.cons rfl (fun K hK => ?_) AllReadyH.nil)
  · skip
    go_simp
    refine hK.out _ _ ?_ (fun hHeld => ?_)
    · trivial
    clear hK K
    try simp only [Act.put, List.setIfInBounds_toArray, List.set_cons_zero, List.set_cons_succ, List.getElem_toArray, List.getElem_cons_succ, List.getElem_cons_zero]
    refine wpAnyH_ready (rs := [5]) (by kernel_rfl) (by simp) ?_
    refine AllReadyH.cons rfl (fun K hK => ?_) AllReadyH.nil
    go_simp
    refine hK.out _ _ ?_ (fun hHeld => ?_)
    · trivial
    clear hK K
    try simp only [Act.put, List.setIfInBounds_toArray, List.set_cons_zero, List.set_cons_succ, List.getElem_toArray, List.getElem_cons_succ, List.getElem_cons_zero]
    refine wpAnyH_take (i := 6) (v := ?_) rfl (by kernel_rfl) (by kernel_rfl) (by kernel_rfl) (fun _ _ _ h => h) (Or.inl ⟨by rfl, ?v6⟩) (by assumption) ?_
    case v6 => (intro w hSw; (try dsimp only at hSw); go_simp; try with_reducible rfl)
    try simp only [Act.put, List.setIfInBounds_toArray, List.set_cons_zero, List.set_cons_succ, List.getElem_toArray, List.getElem_cons_succ, List.getElem_cons_zero]
    refine wpAnyH_ready (rs := [7]) (by kernel_rfl) (by simp) ?_
    refine AllReadyH.cons rfl (fun K hK => ?_) AllReadyH.nil
    go_simp
    refine hK.out _ _ ?_ (fun hHeld => ?_)
    · trivial
    clear hK K
    try simp only [Act.put, List.setIfInBounds_toArray, List.set_cons_zero, List.set_cons_succ, List.getElem_toArray, List.getElem_cons_succ, List.getElem_cons_zero]
    refine wpAnyH_ready (rs := [8]) (by kernel_rfl) (by simp) ?_
    refine AllReadyH.cons rfl (fun K hK => ?_) AllReadyH.nil
    refine step_append_any _ (by rfl) _ _ _ (by rfl) base 69 i0 (.agg #[.int .u64 0, .int .u64 0, .int .u64 0, .int .u64 0]) 4 32 Try.underlying63 hi0 hz0 hz1 hz2 rfl (by omega) (.slice a L.length cap) L.length (pcells L) (by rfl) (HOW.out _ rfl) ⟨w1.heap.size, 0, none⟩ 1 1 (pone ⟨b, p, 0, 0⟩) (by rfl) rfl (HNW.out _ rfl) (pone_one _) (by unfold maxLen; omega) (by omega) (HBS.out _ rfl) ?_
    intro v1 w2 ho1 hg1
    obtain ⟨y1, y2, hP, hF⟩ := HEND.out _ _ _ hg1 ho1 rfl rfl rfl rfl
    obtain ⟨a1, d1, rfl⟩ := owns_slice ho1
    have HX := veil (And.intro hP hF)
    clear hP hF ho1 hg1
    refine hK.out _ _ ?_ (fun hHeld => ?_)
    · trivial
    clear hK K
    try simp only [Act.put, List.setIfInBounds_toArray, List.set_cons_zero, List.set_cons_succ, List.getElem_toArray, List.getElem_cons_succ, List.getElem_cons_zero]
    refine wpAnyH_take (i := 9) (v := ?_) rfl (by kernel_rfl) (by kernel_rfl) (by kernel_rfl) (fun _ _ _ h => h) (Or.inl ⟨by rfl, ?v9⟩) (by assumption) ?_
    case v9 => (intro w hSw; (try dsimp only at hSw); go_simp; try with_reducible rfl)
    try simp only [Act.put, List.setIfInBounds_toArray, List.set_cons_zero, List.set_cons_succ, List.getElem_toArray, List.getElem_cons_succ, List.getElem_cons_zero]
    refine wpAnyH_take (i := 10) (v := ?_) rfl (by kernel_rfl) (by kernel_rfl) (by kernel_rfl) (fun _ _ _ h => h) (Or.inl ⟨by rfl, ?v10⟩) (by assumption) ?_
    case v10 => (intro w hSw; (try dsimp only at hSw); go_simp; try with_reducible rfl)
    try simp only [Act.put, List.setIfInBounds_toArray, List.set_cons_zero, List.set_cons_succ, List.getElem_toArray, List.getElem_cons_succ, List.getElem_cons_zero]
    refine wpAnyH_ready (rs := [11]) (by kernel_rfl) (by simp) ?_
    refine AllReadyH.cons rfl (fun K hK => ?_) AllReadyH.nil
    go_simp
    refine hK.out _ _ ?_ (fun hHeld => ?_)
    · trivial
    clear hK K
    try simp only [Act.put, List.setIfInBounds_toArray, List.set_cons_zero, List.set_cons_succ, List.getElem_toArray, List.getElem_cons_succ, List.getElem_cons_zero]
    refine wpAnyH_done (by kernel_rfl) ?_ _
    go_wp2
    go_ret2
    exact ⟨by first | rfl | simp | (simp; omega), ⟨_, HX.out.1⟩, HX.out.2⟩
  · skip
    go_simp
    refine hK.out _ _ ?_ (fun hHeld => ?_)
    · trivial
    clear hK K
    try simp only [Act.put, List.setIfInBounds_toArray, List.set_cons_zero, List.set_cons_succ, List.getElem_toArray, List.getElem_cons_succ, List.getElem_cons_zero]
    refine wpAnyH_take (i := 6) (v := ?_) rfl (by kernel_rfl) (by kernel_rfl) (by kernel_rfl) (fun _ _ _ h => h) (Or.inl ⟨by rfl, ?v6⟩) (by assumption) ?_
    case v6 => (intro w hSw; (try dsimp only at hSw); go_simp; try with_reducible rfl)
    try simp only [Act.put, List.setIfInBounds_toArray, List.set_cons_zero, List.set_cons_succ, List.getElem_toArray, List.getElem_cons_succ, List.getElem_cons_zero]
    refine wpAnyH_ready (rs := [4, 7]) (by kernel_rfl) (by simp) ?_
    refine AllReadyH.cons rfl (fun K hK => ?_) (AllReadyH.cons rfl (fun K hK => ?_) AllReadyH.nil)
    · skip
      go_simp
      refine hK.out _ _ ?_ (fun hHeld => ?_)
      · trivial
      clear hK K
      try simp only [Act.put, List.setIfInBounds_toArray, List.set_cons_zero, List.set_cons_succ, List.getElem_toArray, List.getElem_cons_succ, List.getElem_cons_zero]
      refine wpAnyH_ready (rs := [7]) (by kernel_rfl) (by simp) ?_
      refine AllReadyH.cons rfl (fun K hK => ?_) AllReadyH.nil
      go_simp
      refine hK.out _ _ ?_ (fun hHeld => ?_)
      · trivial
      clear hK K
      try simp only [Act.put, List.setIfInBounds_toArray, List.set_cons_zero, List.set_cons_succ, List.getElem_toArray, List.getElem_cons_succ, List.getElem_cons_zero]
      refine wpAnyH_ready (rs := [8]) (by kernel_rfl) (by simp) ?_
      refine AllReadyH.cons rfl (fun K hK => ?_) AllReadyH.nil
      refine step_append_any _ (by rfl) _ _ _ (by rfl) base 69 i0 (.agg #[.int .u64 0, .int .u64 0, .int .u64 0, .int .u64 0]) 4 32 Try.underlying63 hi0 hz0 hz1 hz2 rfl (by omega) (.slice a L.length cap) L.length (pcells L) (by rfl) (HOW.out _ rfl) ⟨w1.heap.size, 0, none⟩ 1 1 (pone ⟨b, p, 0, 0⟩) (by rfl) rfl (HNW.out _ rfl) (pone_one _) (by unfold maxLen; omega) (by omega) (HBS.out _ rfl) ?_
      intro v1 w2 ho1 hg1
      obtain ⟨y1, y2, hP, hF⟩ := HEND.out _ _ _ hg1 ho1 rfl rfl rfl rfl
      obtain ⟨a1, d1, rfl⟩ := owns_slice ho1
      have HX := veil (And.intro hP hF)
      clear hP hF ho1 hg1
      refine hK.out _ _ ?_ (fun hHeld => ?_)
      · trivial
      clear hK K
      try simp only [Act.put, List.setIfInBounds_toArray, List.set_cons_zero, List.set_cons_succ, List.getElem_toArray, List.getElem_cons_succ, List.getElem_cons_zero]
      refine wpAnyH_take (i := 9) (v := ?_) rfl (by kernel_rfl) (by kernel_rfl) (by kernel_rfl) (fun _ _ _ h => h) (Or.inl ⟨by rfl, ?v9⟩) (by assumption) ?_
      case v9 => (intro w hSw; (try dsimp only at hSw); go_simp; try with_reducible rfl)
      try simp only [Act.put, List.setIfInBounds_toArray, List.set_cons_zero, List.set_cons_succ, List.getElem_toArray, List.getElem_cons_succ, List.getElem_cons_zero]
      refine wpAnyH_take (i := 10) (v := ?_) rfl (by kernel_rfl) (by kernel_rfl) (by kernel_rfl) (fun _ _ _ h => h) (Or.inl ⟨by rfl, ?v10⟩) (by assumption) ?_
      case v10 => (intro w hSw; (try dsimp only at hSw); go_simp; try with_reducible rfl)
      try simp only [Act.put, List.setIfInBounds_toArray, List.set_cons_zero, List.set_cons_succ, List.getElem_toArray, List.getElem_cons_succ, List.getElem_cons_zero]
      refine wpAnyH_ready (rs := [11]) (by kernel_rfl) (by simp) ?_
      refine AllReadyH.cons rfl (fun K hK => ?_) AllReadyH.nil
      go_simp
      refine hK.out _ _ ?_ (fun hHeld => ?_)
      · trivial
      clear hK K
      try simp only [Act.put, List.setIfInBounds_toArray, List.set_cons_zero, List.set_cons_succ, List.getElem_toArray, List.getElem_cons_succ, List.getElem_cons_zero]
      refine wpAnyH_done (by kernel_rfl) ?_ _
      go_wp2
      go_ret2
      exact ⟨by first | rfl | simp | (simp; omega), ⟨_, HX.out.1⟩, HX.out.2⟩
    · skip
      go_simp
      refine hK.out _ _ ?_ (fun hHeld => ?_)
      · trivial
      clear hK K
      try simp only [Act.put, List.setIfInBounds_toArray, List.set_cons_zero, List.set_cons_succ, List.getElem_toArray, List.getElem_cons_succ, List.getElem_cons_zero]
      refine wpAnyH_ready (rs := [4]) (by kernel_rfl) (by simp) ?_
      refine AllReadyH.cons rfl (fun K hK => ?_) AllReadyH.nil
      go_simp
      refine hK.out _ _ ?_ (fun hHeld => ?_)
      · trivial
      clear hK K
      try simp only [Act.put, List.setIfInBounds_toArray, List.set_cons_zero, List.set_cons_succ, List.getElem_toArray, List.getElem_cons_succ, List.getElem_cons_zero]
      refine wpAnyH_ready (rs := [8]) (by kernel_rfl) (by simp) ?_
      refine AllReadyH.cons rfl (fun K hK => ?_) AllReadyH.nil
      refine step_append_any _ (by rfl) _ _ _ (by rfl) base 69 i0 (.agg #[.int .u64 0, .int .u64 0, .int .u64 0, .int .u64 0]) 4 32 Try.underlying63 hi0 hz0 hz1 hz2 rfl (by omega) (.slice a L.length cap) L.length (pcells L) (by rfl) (HOW.out _ rfl) ⟨w1.heap.size, 0, none⟩ 1 1 (pone ⟨b, p, 0, 0⟩) (by rfl) rfl (HNW.out _ rfl) (pone_one _) (by unfold maxLen; omega) (by omega) (HBS.out _ rfl) ?_
      intro v1 w2 ho1 hg1
      obtain ⟨y1, y2, hP, hF⟩ := HEND.out _ _ _ hg1 ho1 rfl rfl rfl rfl
      obtain ⟨a1, d1, rfl⟩ := owns_slice ho1
      have HX := veil (And.intro hP hF)
      clear hP hF ho1 hg1
      refine hK.out _ _ ?_ (fun hHeld => ?_)
      · trivial
      clear hK K
      try simp only [Act.put, List.setIfInBounds_toArray, List.set_cons_zero, List.set_cons_succ, List.getElem_toArray, List.getElem_cons_succ, List.getElem_cons_zero]
      refine wpAnyH_take (i := 9) (v := ?_) rfl (by kernel_rfl) (by kernel_rfl) (by kernel_rfl) (fun _ _ _ h => h) (Or.inl ⟨by rfl, ?v9⟩) (by assumption) ?_
      case v9 => (intro w hSw; (try dsimp only at hSw); go_simp; try with_reducible rfl)
      try simp only [Act.put, List.setIfInBounds_toArray, List.set_cons_zero, List.set_cons_succ, List.getElem_toArray, List.getElem_cons_succ, List.getElem_cons_zero]
      refine wpAnyH_take (i := 10) (v := ?_) rfl (by kernel_rfl) (by kernel_rfl) (by kernel_rfl) (fun _ _ _ h => h) (Or.inl ⟨by rfl, ?v10⟩) (by assumption) ?_
      case v10 => (intro w hSw; (try dsimp only at hSw); go_simp; try with_reducible rfl)
      try simp only [Act.put, List.setIfInBounds_toArray, List.set_cons_zero, List.set_cons_succ, List.getElem_toArray, List.getElem_cons_succ, List.getElem_cons_zero]
      refine wpAnyH_ready (rs := [11]) (by kernel_rfl) (by simp) ?_
      refine AllReadyH.cons rfl (fun K hK => ?_) AllReadyH.nil
      go_simp
      refine hK.out _ _ ?_ (fun hHeld => ?_)
      · trivial
      clear hK K
      try simp only [Act.put, List.setIfInBounds_toArray, List.set_cons_zero, List.set_cons_succ, List.getElem_toArray, List.getElem_cons_succ, List.getElem_cons_zero]
      refine wpAnyH_done (by kernel_rfl) ?_ _
      go_wp2
      go_ret2
      exact ⟨by first | rfl | simp | (simp; omega), ⟨_, HX.out.1⟩, HX.out.2⟩
end
end Go.Proofs.Ytblickncecpajaa
