/-
  TopSteals: numbers that come in; what is put and taken; the walk.
-/
import Derived.Test.YtlfejgjhamcahaaMZ37
import Derived.Test.YtlfejgjhamcahaaMZ46
namespace Go.Proofs.Ytlfejgjhamcahaa
open Go.RowKit Go.Lib Go.Deep Go.ChangeShapes Go.WideShapes Go.ChangeAt
set_option linter.unusedVariables false
attribute [local go_sem ↓] Go.wp_at_zero Go.wp_at_succ

def U16s (w : World) (a : Option Addr) (len : Nat) (D : Nat → Nat) : Prop :=
  len = 0 ∨ ∃ lb off, a = some ⟨lb, off, none⟩ ∧ lb < w.heap.size ∧ ∀ j, j < len → D j < 65536 ∧ w.cell? ⟨lb, off + j, none⟩ = some (.int .u16 (D j : Int))
theorem u16_of {z : Int} (h : (Lit.int .u16 z).wf = true) : ∃ n : Nat, z = n ∧ n < 65536 := by
  simp [Lit.wf, IntKind.min, IntKind.max, IntKind.bits, IntKind.signed] at h
  exact ⟨z.toNat, by omega, by omega⟩
section
variable {H : Type} {enc : TypeId × Value → H} {w : World} {base : Nat} {spare : Nat → Bool} {held : Bool}
theorem cellsU16 : Try.prog.cellsOf 58 = 1 := by kernel_rfl
theorem open_u16s {fuel : Nat} {a : Option Addr} {len cap : Nat} {x : DataW H × List MemPlace}
    (h : DataW.trod enc Try.prog w base spare held fuel 62 (Value.slice a len cap).cells.toList = some x) : len < 9223372036854775808 ∧ len ≤ cap ∧ cap < 9223372036854775808 ∧ ∃ D, U16s w a len D := by
  rcases open_slice Try.underlying62 h with ⟨hcs, _⟩ | ⟨a', len', cap', m, n, D, Pl, hcs, hbb, hl, hm, hmm, hx, hel⟩
  · simp [Value.cells] at hcs
    obtain ⟨rfl, rfl, rfl⟩ := hcs
    exact ⟨by omega, by omega, by omega, fun _ => 0, .inl rfl⟩
  · simp [Value.cells] at hcs
    obtain ⟨rfl, rfl, rfl⟩ := hcs
    have hlm : len ≤ m := by rw [hmm]; split <;> omega
    refine ⟨by unfold maxLen at hm; omega, hl, by unfold maxLen at hm; omega, ?_⟩
    have hone : ∀ i, i < len → ∃ r : Nat, r < 65536 ∧ w.cell? (a'.add (i * 1)) = some (.int .u16 (r : Int)) := by
      intro i hi'
      obtain ⟨cs', h1, h2⟩ := hel i (by omega)
      rw [cellsU16] at h1
      obtain ⟨_, hlen, hc⟩ := World.cells?_some h1
      match cs', hlen with
      | [c0], _ =>
        obtain ⟨z0, e0, _, w0⟩ := DataW.trod_int Try.underlying58 h2
        simp at e0
        subst e0
        obtain ⟨n0, rfl, q0⟩ := u16_of w0
        have a0 := hc 0 (by omega)
        have az : ∀ x : Addr, x.add 0 = x := fun x => by unfold Addr.add; split <;> simp_all
        rw [az] at a0
        exact ⟨n0, q0, a0⟩
    obtain ⟨f, hf⟩ := choose_lt' hone
    refine ⟨f, ?_⟩
    by_cases h0 : len = 0
    · exact .inl h0
    · right
      obtain ⟨b, off, spot⟩ := a'
      have hspot : spot = none := by
        have := World.cell?_spot (hf 0 (by omega)).2
        simpa [Addr.add] using this
      subst hspot
      have hlt : b < w.heap.size := by
        have := World.block_lt_of_cell? w _ (hf 0 (by omega)).2
        simpa [Addr.add] using this
      refine ⟨b, off, rfl, hlt, fun i hi' => ?_⟩
      obtain ⟨q0, q1⟩ := hf i hi'
      simp only [Go.WideShapes.add_plain, Nat.mul_one] at q1
      exact ⟨q0, q1⟩
end
def U8s (w : World) (a : Option Addr) (len : Nat) (D : Nat → Nat) : Prop :=
  len = 0 ∨ ∃ lb off, a = some ⟨lb, off, none⟩ ∧ lb < w.heap.size ∧ ∀ j, j < len → D j < 256 ∧ w.cell? ⟨lb, off + j, none⟩ = some (.int .u8 (D j : Int))
theorem u8_of {z : Int} (h : (Lit.int .u8 z).wf = true) : ∃ n : Nat, z = n ∧ n < 256 := by
  simp [Lit.wf, IntKind.min, IntKind.max, IntKind.bits, IntKind.signed] at h
  exact ⟨z.toNat, by omega, by omega⟩
section
variable {H : Type} {enc : TypeId × Value → H} {w : World} {base : Nat} {spare : Nat → Bool} {held : Bool}
theorem cellsU8b : Try.prog.cellsOf 5 = 1 := by kernel_rfl
theorem open_u8s {fuel : Nat} {a : Option Addr} {len cap : Nat} {x : DataW H × List MemPlace}
    (h : DataW.trod enc Try.prog w base spare held fuel 63 (Value.slice a len cap).cells.toList = some x) : len < 9223372036854775808 ∧ len ≤ cap ∧ cap < 9223372036854775808 ∧ ∃ D, U8s w a len D := by
  rcases open_slice Try.underlying63 h with ⟨hcs, _⟩ | ⟨a', len', cap', m, n, D, Pl, hcs, hbb, hl, hm, hmm, hx, hel⟩
  · simp [Value.cells] at hcs
    obtain ⟨rfl, rfl, rfl⟩ := hcs
    exact ⟨by omega, by omega, by omega, fun _ => 0, .inl rfl⟩
  · simp [Value.cells] at hcs
    obtain ⟨rfl, rfl, rfl⟩ := hcs
    have hlm : len ≤ m := by rw [hmm]; split <;> omega
    refine ⟨by unfold maxLen at hm; omega, hl, by unfold maxLen at hm; omega, ?_⟩
    have hone : ∀ i, i < len → ∃ r : Nat, r < 256 ∧ w.cell? (a'.add (i * 1)) = some (.int .u8 (r : Int)) := by
      intro i hi'
      obtain ⟨cs', h1, h2⟩ := hel i (by omega)
      rw [cellsU8b] at h1
      obtain ⟨_, hlen, hc⟩ := World.cells?_some h1
      match cs', hlen with
      | [c0], _ =>
        obtain ⟨z0, e0, _, w0⟩ := DataW.trod_int Try.underlying5 h2
        simp at e0
        subst e0
        obtain ⟨n0, rfl, q0⟩ := u8_of w0
        have a0 := hc 0 (by omega)
        have az : ∀ x : Addr, x.add 0 = x := fun x => by unfold Addr.add; split <;> simp_all
        rw [az] at a0
        exact ⟨n0, q0, a0⟩
    obtain ⟨f, hf⟩ := choose_lt' hone
    refine ⟨f, ?_⟩
    by_cases h0 : len = 0
    · exact .inl h0
    · right
      obtain ⟨b, off, spot⟩ := a'
      have hspot : spot = none := by
        have := World.cell?_spot (hf 0 (by omega)).2
        simpa [Addr.add] using this
      subst hspot
      have hlt : b < w.heap.size := by
        have := World.block_lt_of_cell? w _ (hf 0 (by omega)).2
        simpa [Addr.add] using this
      refine ⟨b, off, rfl, hlt, fun i hi' => ?_⟩
      obtain ⟨q0, q1⟩ := hf i hi'
      simp only [Go.WideShapes.add_plain, Nat.mul_one] at q1
      exact ⟨q0, q1⟩
end
def Falls (M : List En) : Prop := M.Pairwise (fun a b => Ke.up b.2 a.2 = false)
theorem falls_lev (R : List (Nat × Nat)) : ∀ k, Falls (lev R k)
  | 0 => List.Pairwise.nil
  | k + 1 => by
    unfold Falls
    rw [lev, List.pairwise_append]
    refine ⟨?_, falls_lev R k, ?_⟩
    · refine List.Pairwise.imp_of_mem (R := fun _ _ => True) ?_ (List.pairwise_of_forall (fun _ _ => trivial))
      intro a b ha hb _
      rw [(mem_lvs.1 ha).2, (mem_lvs.1 hb).2, up_ff]
      simp
    · intro a ha b hb
      obtain ⟨j, hj, _, e⟩ := mem_lev.1 hb
      rw [(mem_lvs.1 ha).2, e, up_ff]
      simp
      omega
theorem falls_dl (L : List Ph.Item) (h : Ph.Srt L) : Falls (dl L) := by
  unfold Falls dl
  rw [List.pairwise_map]
  refine List.Pairwise.imp ?_ h
  intro a b hab
  rw [up_dd]
  unfold Ph.ah at hab
  simp
  omega
theorem falls_all (R : List (Nat × Nat)) (L : List Ph.Item) (h : Ph.Srt L) : Falls (all R L) := by
  unfold Falls all
  rw [List.pairwise_append]
  refine ⟨falls_dl L h, falls_lev R 256, ?_⟩
  intro a ha b hb
  obtain ⟨d, s, _, e⟩ := mem_dl.1 ha
  obtain ⟨j, _, _, e'⟩ := mem_lev.1 hb
  rw [e, e']
  exact up_fd _ _
theorem IsS.falls {w : World} {sb qb gq hb gh n most turn : Nat} {M : List En} (h : IsS w sb qb gq hb gh n most turn M) : Falls M := by
  obtain ⟨R, L, hS, hI⟩ := h
  rw [← hI.eq]
  exact falls_all R L hS.h.good.srt
theorem PQ.falls {w : World} {O : Nat → Prop} {pb n np q T : Nat} {G : List (List En)} (h : PQ w O pb n np q T G) {i : Nat} {M : List En} (hi : G[i]? = some M) : Falls M := by
  obtain ⟨base, lo, mb, v, H, hQ, hG, hO⟩ := h
  rw [← hG] at hi
  simp only [Ms, List.getElem?_map] at hi
  cases hx : H[i]? with
  | none => rw [hx] at hi; cases hi
  | some x =>
    rw [hx] at hi
    injection hi with hi
    subst hi
    exact IsS.falls (hQ.p.sets.it i x hx)
/-- The key of what is best is the same whoever takes, whatever is drawn. -/
theorem bb_key2 {np : Nat} {G : List (List En)} (hl : G.length = np + 1) (hr : ∀ (i : Nat) (x : Hd), (gh G)[i]? = some x → ∀ y ∈ x.M, Ke.rightK y.2 = true) {p d p' d' : Int} {c c' : Nat} (h : bb np (gh G) p d = some c) (h' : bb np (gh G) p' d' = some c') : bK (gh G) (some c) = bK (gh G) (some c') := by
  obtain ⟨_, _, x, z, M, hx, hM⟩ := bb_at h
  obtain ⟨_, _, x', z', M', hx', hM'⟩ := bb_at h'
  have q1 : MM (gh G) c = z :: M := by rw [MM_at hx, hM]
  have q2 : MM (gh G) c' = z' :: M' := by rw [MM_at hx', hM']
  have g1 : G[c]? = some (z :: M) := by rw [← hM]; exact gh_at hx
  have g2 : G[c']? = some (z' :: M') := by rw [← hM']; exact gh_at hx'
  have n1 := bb_over hl h' g1
  have n2 := bb_over hl h g2
  show tkK (MM (gh G) c) = tkK (MM (gh G) c')
  rw [q1] at n2 ⊢
  rw [q2] at n1 ⊢
  exact nu_eq n1 n2 (hr c x hx z (by rw [hM]; simp)) (hr c' x' hx' z' (by rw [hM']; simp))
/-- All entries that stand anywhere. -/
def Ent (G : List (List En)) (z : En) : Prop := ∃ (i : Nat) (M : List En), G[i]? = some M ∧ z ∈ M
section
variable {w : World} {O : Nat → Prop} {pb n np q T : Nat} {G : List (List En)}
/-- Put of an id that stands nowhere. -/
theorem PQ.fresh (h : PQ w O pb n np q T G) (p : Nat) (hp : p < np) (id : Nat) (hi : id < n) (k : Ke.K) (hr : Ke.rightK k = true) (hno : ∀ z, Ent G z → z.1 ≠ id) :
    pputC np n (gh G) (p : Int) (id : Int) k = 0 ∧ sumH (gh (pputG np n q (gh G) (p : Int) (id : Int) k)) = sumH (gh G) + 1 ∧ ∀ z, Ent (pputG np n q (gh G) (p : Int) (id : Int) k) z → z = (id, k) ∨ Ent G z := by
  have hw : whereF n (gh G) 0 (id : Int) = none := whereF_none n _ (gh G) 0 (fun i x hx _ => by
    refine keyOf_none.2 (fun y hy => ?_)
    exact hno y ⟨i, x.M, gh_at hx, hy⟩)
  have hc : pputC np n (gh G) (p : Int) (id : Int) k = 0 := by
    unfold pputC
    rw [if_neg (by unfold Bad; rintro ((q | q) | q | q | q); omega; omega; omega; omega; rw [hr] at q; cases q), hw]
    rfl
  have hal : aPut np n q (gh G) p < (gh G).length := by
    rw [gh_len, h.len]
    unfold aPut
    split <;> omega
  have hx : (gh G)[aPut np n q (gh G) p]? = some ((gh G)[aPut np n q (gh G) p]'hal) := List.getElem?_eq_getElem _
  have hg : pputG np n q (gh G) (p : Int) (id : Int) k = G.set (aPut np n q (gh G) p) (Go.Proofs.Ytlfejgjhamcahaa.put (id, k) (MM (gh G) (aPut np n q (gh G) p))) := by
    unfold pputG
    rw [if_pos hc, Ms_gh]
    rfl
  generalize (gh G)[aPut np n q (gh G) p] = x at hx
  refine ⟨hc, ?_, ?_⟩
  · rw [hg, gh_set, MM_at hx]
    have hs : sumH ((gh G).set (aPut np n q (gh G) p) ⟨0, 0, 0, 0, 0, 0, Go.Proofs.Ytlfejgjhamcahaa.put (id, k) x.M⟩) + x.M.length = sumH (gh G) + (Go.Proofs.Ytlfejgjhamcahaa.put (id, k) x.M).length := sumH_set hx
    rw [len_put] at hs
    omega
  · rw [hg, MM_at hx]
    rintro z ⟨i, M, hM, hz⟩
    rcases Nat.decEq i (aPut np n q (gh G) p) with e | e
    · rw [List.getElem?_set_ne (fun q => e q.symm)] at hM
      exact .inr ⟨i, M, hM, hz⟩
    · subst e
      rw [List.getElem?_set_self (by rw [gh_len] at hal; exact hal)] at hM
      injection hM with hM
      subst hM
      rcases mem_put.1 hz with e | e
      · exact .inl e
      · exact .inr ⟨_, x.M, gh_at hx, e⟩
theorem took_sub {p d : Int} : ∀ z, Ent (ptkG np (gh G) p d) z → Ent G z := by
  rintro z ⟨i, M, hM, hz⟩
  unfold ptkG at hM
  cases hb : bb np (gh G) p d with
  | none => rw [hb, Ms_gh] at hM; exact ⟨i, M, hM, hz⟩
  | some c =>
    rw [hb, Ms_gh] at hM
    simp only at hM
    rcases Nat.decEq i c with e | e
    · rw [List.getElem?_set_ne (fun q => e q.symm)] at hM
      exact ⟨i, M, hM, hz⟩
    · subst e
      obtain ⟨_, _, x, z', M', hx, hM'⟩ := bb_at hb
      have hil : i < G.length := (List.getElem?_eq_some_iff.1 (gh_at hx)).1
      rw [List.getElem?_set_self hil, MM_at hx] at hM
      injection hM with hM
      subst hM
      exact ⟨i, x.M, gh_at hx, List.mem_of_mem_tail hz⟩
/-- What is taken next, whoever takes: its key, and what is left. -/
theorem PQ.next (h : PQ w O pb n np q T G) {p d p' d' : Int} (hp : 0 ≤ p ∧ p < (np : Int)) (hp' : 0 ≤ p' ∧ p' < (np : Int)) (hs : 0 < sumH (gh G)) :
    ∃ kk, bK (gh G) (bb np (gh G) p d) = kk ∧ bK (gh G) (bb np (gh G) p' d') = kk ∧ (bb np (gh G) p' d').isSome = true ∧ (∃ z, Ent G z ∧ z.2 = kk) ∧ (∀ z, Ent G z → Ke.up z.2 kk = false) ∧ sumH (gh (ptkG np (gh G) p' d')) + 1 = sumH (gh G) := by
  have h1 := bb_any h.len hp d
  have h2 := bb_any h.len hp' d'
  rw [decide_eq_true hs] at h1 h2
  obtain ⟨c, hc⟩ := Option.isSome_iff_exists.1 h1
  obtain ⟨c', hc'⟩ := Option.isSome_iff_exists.1 h2
  obtain ⟨_, _, x, z, M, hx, hM⟩ := bb_at hc'
  obtain ⟨_, _, _, _, _, hsum⟩ := h.took hc'
  have hk : bK (gh G) (some c') = z.2 := by show tkK (MM (gh G) c') = _; rw [MM_at hx, hM]; rfl
  refine ⟨bK (gh G) (some c'), ?_, by rw [hc'], by rw [hc']; rfl, ⟨z, ⟨c', x.M, gh_at hx, by rw [hM]; simp⟩, hk.symm⟩, ?_, hsum⟩
  · rw [hc]
    exact bb_key2 h.len (fun i y hy => (h.nd hy).2.2) hc hc'
  · rintro y ⟨i, M2, hM2, hy⟩
    cases hM3 : M2 with
    | nil => rw [hM3] at hy; cases hy
    | cons y0 M4 =>
      have h0 : Ke.up y0.2 (bK (gh G) (some c')) = false := bb_over h.len hc' (by rw [← hM3]; exact hM2)
      rw [hM3] at hy
      rcases List.mem_cons.1 hy with e | e
      · rw [e]; exact h0
      · have hf := h.falls hM2
        rw [hM3] at hf
        exact nu_trans ((List.pairwise_cons.1 hf).1 y e) h0
end
set_option maxHeartbeats 8000000 in
set_option maxRecDepth 20000 in
theorem TopSteals_walk (a : Option Addr) (len cap : Nat) (L : Nat → Nat) (hlen : len < 9223372036854775808) (a2 : Option Addr) (len2 cap2 : Nat) (L2 : Nat → Nat) (hlen2 : len2 < 9223372036854775808) (w : World) (hd : U16s w a len L) (hd2 : U8s w a2 len2 L2) :
    Calls Try.prog 13 #[.slice a len cap, .slice a2 len2 cap2] w fun e w' => e = .returned (.bool true) ∧ Below w.heap.size w w' := by
  have hn := pnew_pq 4 64 3 w (by omega) (by omega) (by omega)
  have HN : Hid (Calls Try.prog 31 #[.int .i64 4, .int .i64 64, .int .i64 3] w fun e w' => ∃ O, e = .returned (.pointer (some ⟨w.heap.size + 1, 0, none⟩)) ∧ PQ w' O (w.heap.size + 1) 64 4 3 0 (List.replicate 5 []) ∧ (∀ k, O k → w.heap.size ≤ k) ∧ Below w.heap.size w w') := hn
  have HD := veil hd
  have HD2 := veil hd2
  clear hn hd hd2
  go_enter Try.func13, Try.ntmps13
  go_wp2_with (go_at_call 31; refine (HN.out).mono ?_; rintro e w1 ⟨O, rfl, hq1, ho, hb'⟩; have HQ := veil hq1; have HB := veil hb'; have HO := veil ho; clear hq1 hb' ho)
  go_loopw [6, 7] (fun nv iv wr => ∃ (j : Nat) (G : List (List En)), j ≤ len ∧ j ≤ 64 ∧ iv = .int .i64 j ∧ nv = .int .i64 j ∧ PQ wr O (w.heap.size + 1) 64 4 3 j G ∧ sumH (gh G) = j ∧ (∀ z, Ent G z → z.1 < j ∧ z.2.e = false) ∧ Below w.heap.size w wr) (fun _ iv _ => len - (intOf iv).toNat)
  case atStart =>
    refine ⟨0, List.replicate 5 [], by omega, by omega, rfl, rfl, HQ.out, rfl, fun z hz => ?_, HB.out⟩
    obtain ⟨i, M, hM, hm⟩ := hz
    have : M = [] := by
      rw [List.getElem?_replicate] at hM
      split at hM
      · injection hM with hM; exact hM.symm
      · cases hM
    rw [this] at hm
    cases hm
  case round =>
    obtain ⟨j, G, hj, hj1, rfl, rfl, hQ, hs, hE, hbel⟩ := hrel
    have HQj := veil hQ
    have HBj := veil hbel
    have HE := veil hE
    have HSM := veil hs
    clear hQ hbel hE hs
    by_cases hjl : j < len ∧ j < 64
    · have hjl' : (j : Int) < (len : Int) := by omega
      have hj64 : (j : Int) < 64 := by omega
      rcases HD.out with h0 | ⟨lb, off, rfl, hlb, hc⟩
      · omega
      obtain ⟨hx, z1⟩ := hc j hjl.1
      have y1 := (HBj.out.cell (p := ⟨lb, off + j, none⟩) hlb).trans z1
      generalize L j = x at *
      clear hc z1
      have hr4 := rem4 x
      have hr4' : (x : Int) % 4 = ((x % 4 : Nat) : Int) := by omega
      have hx4 : x % 4 < 4 := Nat.mod_lt _ (by decide)
      have HPU : Hid (∀ W (l : Int), Below wr.heap.size wr W → (0 ≤ l ∧ l < 256) → Calls Try.prog 26 #[.pointer (some ⟨w.heap.size + 1, 0, none⟩), .int .i64 ((x % 4 : Nat) : Int), .int .i64 (j : Int), .agg #[.bool (Ke.fixK l).e, .int .u64 (Ke.fixK l).d, .int .u8 (Ke.fixK l).l]] W fun e w' => e = .returned (.int .i64 0) ∧ (∃ G', PQ w' O (w.heap.size + 1) 64 4 3 (j + 1) G' ∧ sumH (gh G') = j + 1 ∧ (∀ z, Ent G' z → z.1 < j + 1 ∧ z.2.e = false)) ∧ Below w.heap.size w w' ∧ w'.cell? ⟨lb, off + j, none⟩ = some (.int .u16 (x : Int))) := fun W l hW hl => by
        have hQW := HQj.out.below hW
        obtain ⟨f1, f2, f3⟩ := hQW.fresh (x % 4) hx4 j (by omega) (Ke.fixK l) (by simp [Ke.fixK, Ke.rightK]) (fun z hz => by have := (HE.out z hz).1; omega)
        have := hQW.put (by omega) ((x % 4 : Nat) : Int) (j : Int) (Ke.fixK l) (by simp [Ke.K.ok, Ke.fixK]; omega)
        rw [f1] at this
        refine this.mono ?_
        rintro e w' ⟨rfl, hq, hf⟩
        have hbw : Below w.heap.size w w' := (HBj.out.trans (hW.mono HBj.out.size)).trans (hf.below (by have := HBj.out.size; have := hW.size; omega) HO.out)
        refine ⟨rfl, ⟨_, hq, by rw [f2, HSM.out], fun z hz => ?_⟩, hbw, ?_⟩
        · rcases f3 z hz with e | e
          · rw [e]; exact ⟨by simp, rfl⟩
          · have := HE.out z e
            exact ⟨by omega, this.2⟩
        · rw [hbw.cell (p := ⟨lb, off + j, none⟩) hlb]
          have := HBj.out.cell (p := ⟨lb, off + j, none⟩) hlb
          rw [← this]
          exact y1
      have hlv : IntKind.u8.wrap (IntKind.u16.wrap ((x : Int) / 4)) = ((x / 4 % 256 : Nat) : Int) := by
        simp [IntKind.wrap, IntKind.bits, IntKind.signed]
      have hwx : IntKind.i64.wrap (x : Int) = (x : Int) := by
        simp [IntKind.wrap, IntKind.bits, IntKind.signed]
        omega
      have hl256 : x / 4 % 256 < 256 := Nat.mod_lt _ (by decide)
      have HLV : Hid (0 ≤ ((x / 4 % 256 : Nat) : Int) ∧ ((x / 4 % 256 : Nat) : Int) < 256) := by unfold Hid; omega
      generalize x / 4 % 256 = lv at *
      generalize x % 4 = p at *
      have HBB : Hid (Below wr.heap.size wr wr) := Below.refl _ _
      go_wp2
      go_region_held3 (fun w' => w'.cell? ⟨lb, off + j, none⟩ = some (.int .u16 (x : Int)))
        (first
          | exact HC5.out
          | exact hc3
          | exact y1
          | go_keep)
        (first
          | (go_at_call 33; refine (Ke.fixed_ok _ (lv : Int)).mono ?_; rintro e w3 ⟨rfl, hb3⟩; have hb3' := below_pre' (w0 := wr) hb3 rfl rfl rfl rfl; have HB3 := veil hb3'; have hc3 := (hb3'.cell (p := ⟨lb, off + j, none⟩) (World.block_lt_of_cell? wr ⟨lb, off + j, none⟩ y1)).trans y1; clear hb3 hb3')
          | (go_at_call 26; refine (HPU.out _ (lv : Int) (by exact HB3.out) HLV.out).mono ?_; rintro e w5 ⟨rfl, hg5, hb5, hc5⟩; have HG5 := veil hg5; have HB5 := veil hb5; have HC5 := veil hc5; clear hg5 hb5 hc5))
      go_wp2
      go_roundw
      case rel =>
        obtain ⟨G', q1, q2, q3⟩ := HG5.out
        exact ⟨j + 1, G', by omega, by omega, by go_num, by go_num, q1, q2, q3, HB5.out⟩
      case measure => simp [intOf]; omega
    · by_cases hl1 : j < len
      · have hl1' : (j : Int) < (len : Int) := by omega
        have hl2' : ¬ (j : Int) < 64 := by omega
        have HDE := veil (fun W => Ke.dead_ok W 0)
        go_wp2_with (go_at_call 34; refine (HDE.out _).mono ?_; rintro e w3 ⟨rfl, hb3⟩; have HQ3 := veil (HQj.out.below (hb3.alloc hb3.size (.cells #[.bool (Ke.deadK 0).e, .int .u64 (Ke.deadK 0).d, .int .u8 (Ke.deadK 0).l] 25))); have HX3 := veil (World.alloc_heap_new w3 (.cells #[.bool (Ke.deadK 0).e, .int .u64 (Ke.deadK 0).d, .int .u8 (Ke.deadK 0).l] 25)); have HB3 := veil (HBj.out.trans ((hb3.alloc hb3.size (.cells #[.bool (Ke.deadK 0).e, .int .u64 (Ke.deadK 0).d, .int .u8 (Ke.deadK 0).l] 25)).mono HBj.out.size)); have HNB : Hid (∀ k, O k → ¬ k = w3.heap.size) := (fun k hk e => by have := HQj.out.blocks k hk; have := hb3.size; omega); have hwl : w.heap.size ≤ w3.heap.size := (by have := HBj.out.size; have := hb3.size; omega); clear hb3)
        generalize w3.alloc (.cells #[.bool (Ke.deadK 0).e, .int .u64 (Ke.deadK 0).d, .int .u8 (Ke.deadK 0).l] 25) = W3 at *
        generalize w3.heap.size = Bl at *
        have HE2 : Hid (∀ z, Ent G z → Ke.up z.2 (Ke.deadK 0) = false) := fun z hz => by
          have := (HE.out z hz).2
          simp [Ke.up, Ke.deadK, this]
        clear HQj HBj HE
        go_loopw [9] (fun iv wr => ∃ (i2 : Nat) (G2 : List (List En)) (lk : Ke.K), i2 ≤ j ∧ iv = .int .i64 i2 ∧ PQ wr O (w.heap.size + 1) 64 4 3 (j + i2) G2 ∧ sumH (gh G2) + i2 = j ∧ (∀ z, Ent G2 z → Ke.up z.2 lk = false) ∧ wr.heap[Bl]? = some (.cells #[.bool lk.e, .int .u64 lk.d, .int .u8 lk.l] 25 (0, 0)) ∧ Below w.heap.size w wr) (fun iv _ => j - (intOf iv).toNat)
        case atStart => exact ⟨0, G, Ke.deadK 0, by omega, rfl, HQ3.out, HSM.out, HE2.out, HX3.out, HB3.out⟩
        case round =>
          obtain ⟨i2, G2, lk, hi2, rfl, hQ, hs, hE, hbx, hbel⟩ := hrel
          have HQi := veil hQ
          have HBi := veil hbel
          have HEi := veil hE
          have HXi := veil hbx
          have HSi := veil hs
          clear hQ hbel hE hbx hs
          by_cases hil : i2 < j
          · have hil' : (i2 : Int) < (j : Int) := by omega
            have hspos : 0 < sumH (gh G2) := by have := HSi.out; omega
            have hways : (∃ wv : Nat, wv = 0 ∧ ¬ (i2 : Int) < (len2 : Int)) ∨ (∃ wv : Nat, wv < 256 ∧ (i2 : Int) < (len2 : Int) ∧ ∃ lb2 off2, a2 = some ⟨lb2, off2, none⟩ ∧ wr.cell? ⟨lb2, off2 + i2, none⟩ = some (.int .u8 (wv : Int))) := by
              by_cases hq : i2 < len2
              · right
                rcases HD2.out with h0 | ⟨lb2, off2, rfl, hlb2, hc2⟩
                · omega
                · obtain ⟨g1, g2⟩ := hc2 i2 hq
                  exact ⟨L2 i2, g1, by omega, lb2, off2, rfl, (HBi.out.cell (p := ⟨lb2, off2 + i2, none⟩) hlb2).trans g2⟩
              · exact .inl ⟨0, rfl, by omega⟩
            rcases hways with ⟨wv, hwv0, hnl⟩ | ⟨wv, hwv, hnl, lb2, off2, rfl, hcw⟩
            · subst hwv0
              obtain ⟨kk, e1, e2, e3, ⟨z0, hz0, hz1⟩, hz2, hsum⟩ := HQi.out.next (p := 1) (d := 9) (p' := 0) (d' := 0) (by omega) (by omega) hspos
              have hub : Ke.up kk lk = false := by rw [← hz1]; exact HEi.out z0 hz0
              have HZ2 := veil hz2
              have HSU := veil hsum
              have HBEST := veil (HQi.out.best 1 9 (by omega))
              have HTAKE := veil (fun W (hW : PQ W O (w.heap.size + 1) 64 4 3 (j + i2) G2) => hW.take 0 0 (by omega))
              rw [e1] at HBEST
              rw [e2, e3] at HTAKE
              have HSUB := veil (took_sub (G := G2) (np := 4) (p := 0) (d := 0))
              generalize bI (gh G2) (bb 4 (gh G2) 1 9) = ti at *
              generalize bA (bb 4 (gh G2) 1 9) = ta at *
              generalize (bb 4 (gh G2) 1 9).isSome = ob at *
              generalize bI (gh G2) (bb 4 (gh G2) 0 0) = ti2 at *
              generalize bA (bb 4 (gh G2) 0 0) = ta2 at *
              generalize ptkG 4 (gh G2) 0 0 = G3 at *
              have hs1 : Ke.same kk kk = true := by rw [Ke.same_eq]; exact decide_eq_true rfl
              have HAB := veil (fun W => Ke.above_ok W kk lk)
              rw [hub] at HAB
              clear e1 e2 e3 hz0 hz1 hz2 hsum hub
              go_wp2_with (first
                | (go_at_call 17; refine (HBEST.out).mono ?_; rintro e w4 ⟨rfl, hb4⟩; have HQ4 := veil (HQi.out.below (hb4.alloc hb4.size (.cells #[.bool kk.e, .int .u64 kk.d, .int .u8 kk.l] 25))); have HB4 := veil (HBi.out.trans ((hb4.alloc hb4.size (.cells #[.bool kk.e, .int .u64 kk.d, .int .u8 kk.l] 25)).mono HBi.out.size)); have HA4 := veil (World.alloc_heap_new w4 (.cells #[.bool kk.e, .int .u64 kk.d, .int .u8 kk.l] 25)); have HX4 := veil (((hb4.alloc hb4.size (.cells #[.bool kk.e, .int .u64 kk.d, .int .u8 kk.l] 25)).block Bl (Array.getElem?_eq_some_iff.1 HXi.out).1).trans HXi.out); have hz4 : wr.heap.size ≤ w4.heap.size := hb4.size; clear hb4)
                | (go_at_call 25; refine (HTAKE.out _ HQ4.out).mono ?_; rintro e w5 ⟨rfl, hq5, hf5⟩; have HQ5 := veil (hq5.below ((Below.refl _ _).alloc (Nat.le_refl _) (.cells #[.bool kk.e, .int .u64 kk.d, .int .u8 kk.l] 25))); have hs45 : w4.heap.size < w5.heap.size := (by have := hf5.size; simp at this; omega); have ha5 := (Below.heap_alloc w5 (.cells #[.bool kk.e, .int .u64 kk.d, .int .u8 kk.l] 25) w4.heap.size hs45).trans ((hf5.block w4.heap.size (by simp) (fun q => by have := HQi.out.blocks _ q; omega)).trans HA4.out); have hx5' := (hf5.block Bl (Array.getElem?_eq_some_iff.1 HX4.out).1 (fun q => HNB.out _ q rfl)).trans HX4.out; have hx5 := (Below.heap_alloc w5 (.cells #[.bool kk.e, .int .u64 kk.d, .int .u8 kk.l] 25) Bl (Array.getElem?_eq_some_iff.1 hx5').1).trans hx5'; have HX5 := veil hx5; have HK5 := veil (World.alloc_heap_new w5 (.cells #[.bool kk.e, .int .u64 kk.d, .int .u8 kk.l] 25)); have HB5 := veil ((HB4.out.trans (hf5.below HB4.out.size HO.out)).alloc (HB4.out.trans (hf5.below HB4.out.size HO.out)).size (.cells #[.bool kk.e, .int .u64 kk.d, .int .u8 kk.l] 25)); have z0 : ¬ w4.heap.size = w5.heap.size := (by omega); have z1 : ¬ w5.heap.size = w4.heap.size := (by omega); have p0 := (blk_cell ha5 0).1; have p1 := (blk_cell ha5 1).1; have p2 := (blk_cell ha5 2).1; have l0 := (blk_cell hx5 0).1; have l1 := (blk_cell hx5 1).1; have l2 := (blk_cell hx5 2).1; simp only [List.getElem?_toArray, List.getElem?_cons_zero, List.getElem?_cons_succ] at p0 p1 p2 l0 l1 l2; clear hq5 hf5 ha5 hx5 hx5')
                | (go_at_call 35; refine (HAB.out _).mono ?_; rintro e w6 ⟨rfl, hb6⟩; have HQ6 := veil (HQ5.out.below hb6); have hx6 := (hb6.block Bl (Array.getElem?_eq_some_iff.1 HX5.out).1).trans HX5.out; have hk6 := (hb6.block w5.heap.size (by simp)).trans HK5.out; have HX6 := veil hx6; have HB6 := veil (HB5.out.trans (hb6.mono HB5.out.size)); have k0 := (blk_cell hk6 0).1; have k1 := (blk_cell hk6 1).1; have k2 := (blk_cell hk6 2).1; have m0 := (blk_cell hx6 0).1; have m1 := (blk_cell hx6 1).1; have m2 := (blk_cell hx6 2).1; have f0 := (blk_cell hx6 0).2; have f1 := (blk_cell hx6 1).2; have f2 := (blk_cell hx6 2).2; simp only [List.getElem?_toArray, List.getElem?_cons_zero, List.getElem?_cons_succ] at k0 k1 k2 m0 m1 m2; clear hb6 hx6 hk6))
              go_roundw
              case rel => exact ⟨i2 + 1, G3, kk, by omega, by go_num, HQ6.out.frame (fr_key3 w6 Bl kk) HNB.out, by have h1 := HSU.out; have h2 := HSi.out; omega, fun z hz => HZ2.out z (HSUB.out z hz), blk_key3 (k0 := lk) HX6.out, below_key3 HB6.out hwl kk⟩
              case measure => simp [intOf]; omega
            · obtain ⟨kk, e1, e2, e3, ⟨z0, hz0, hz1⟩, hz2, hsum⟩ := HQi.out.next (p := (((wv + 1) % 4 : Nat) : Int)) (d := 9) (p' := ((wv % 4 : Nat) : Int)) (d' := (wv : Int)) (by omega) (by omega) hspos
              have hwx : IntKind.i64.wrap (wv : Int) = (wv : Int) := by
                simp [IntKind.wrap, IntKind.bits, IntKind.signed]
                omega
              have hwu : IntKind.u64.wrap (wv : Int) = (wv : Int) := by
                simp [IntKind.wrap, IntKind.bits, IntKind.signed]
                omega
              have hr1 := rem4 wv
              have hr2 := rem4 (wv + 1)
              have hr3 : ((wv : Int) + 1).tmod 4 = (((wv + 1) % 4 : Nat) : Int) := by rw [← hr2]; push_cast; rfl
              have hub : Ke.up kk lk = false := by rw [← hz1]; exact HEi.out z0 hz0
              have HZ2 := veil hz2
              have HSU := veil hsum
              have HBEST := veil (HQi.out.best (((wv + 1) % 4 : Nat) : Int) 9 (by omega))
              have HTAKE := veil (fun W (hW : PQ W O (w.heap.size + 1) 64 4 3 (j + i2) G2) => hW.take ((wv % 4 : Nat) : Int) (wv : Int) (by omega))
              rw [e1] at HBEST
              rw [e2, e3] at HTAKE
              have HSUB := veil (took_sub (G := G2) (np := 4) (p := ((wv % 4 : Nat) : Int)) (d := (wv : Int)))
              generalize bI (gh G2) (bb 4 (gh G2) (((wv + 1) % 4 : Nat) : Int) 9) = ti at *
              generalize bA (bb 4 (gh G2) (((wv + 1) % 4 : Nat) : Int) 9) = ta at *
              generalize (bb 4 (gh G2) (((wv + 1) % 4 : Nat) : Int) 9).isSome = ob at *
              generalize bI (gh G2) (bb 4 (gh G2) ((wv % 4 : Nat) : Int) (wv : Int)) = ti2 at *
              generalize bA (bb 4 (gh G2) ((wv % 4 : Nat) : Int) (wv : Int)) = ta2 at *
              generalize ptkG 4 (gh G2) ((wv % 4 : Nat) : Int) (wv : Int) = G3 at *
              have hs1 : Ke.same kk kk = true := by rw [Ke.same_eq]; exact decide_eq_true rfl
              have HAB := veil (fun W => Ke.above_ok W kk lk)
              rw [hub] at HAB
              clear e1 e2 e3 hz0 hz1 hz2 hsum hub
              go_wp2_with (first
                | (go_at_call 17; refine (HBEST.out).mono ?_; rintro e w4 ⟨rfl, hb4⟩; have HQ4 := veil (HQi.out.below (hb4.alloc hb4.size (.cells #[.bool kk.e, .int .u64 kk.d, .int .u8 kk.l] 25))); have HB4 := veil (HBi.out.trans ((hb4.alloc hb4.size (.cells #[.bool kk.e, .int .u64 kk.d, .int .u8 kk.l] 25)).mono HBi.out.size)); have HA4 := veil (World.alloc_heap_new w4 (.cells #[.bool kk.e, .int .u64 kk.d, .int .u8 kk.l] 25)); have HX4 := veil (((hb4.alloc hb4.size (.cells #[.bool kk.e, .int .u64 kk.d, .int .u8 kk.l] 25)).block Bl (Array.getElem?_eq_some_iff.1 HXi.out).1).trans HXi.out); have hz4 : wr.heap.size ≤ w4.heap.size := hb4.size; clear hb4)
                | (go_at_call 25; refine (HTAKE.out _ HQ4.out).mono ?_; rintro e w5 ⟨rfl, hq5, hf5⟩; have HQ5 := veil (hq5.below ((Below.refl _ _).alloc (Nat.le_refl _) (.cells #[.bool kk.e, .int .u64 kk.d, .int .u8 kk.l] 25))); have hs45 : w4.heap.size < w5.heap.size := (by have := hf5.size; simp at this; omega); have ha5 := (Below.heap_alloc w5 (.cells #[.bool kk.e, .int .u64 kk.d, .int .u8 kk.l] 25) w4.heap.size hs45).trans ((hf5.block w4.heap.size (by simp) (fun q => by have := HQi.out.blocks _ q; omega)).trans HA4.out); have hx5' := (hf5.block Bl (Array.getElem?_eq_some_iff.1 HX4.out).1 (fun q => HNB.out _ q rfl)).trans HX4.out; have hx5 := (Below.heap_alloc w5 (.cells #[.bool kk.e, .int .u64 kk.d, .int .u8 kk.l] 25) Bl (Array.getElem?_eq_some_iff.1 hx5').1).trans hx5'; have HX5 := veil hx5; have HK5 := veil (World.alloc_heap_new w5 (.cells #[.bool kk.e, .int .u64 kk.d, .int .u8 kk.l] 25)); have HB5 := veil ((HB4.out.trans (hf5.below HB4.out.size HO.out)).alloc (HB4.out.trans (hf5.below HB4.out.size HO.out)).size (.cells #[.bool kk.e, .int .u64 kk.d, .int .u8 kk.l] 25)); have z0 : ¬ w4.heap.size = w5.heap.size := (by omega); have z1 : ¬ w5.heap.size = w4.heap.size := (by omega); have p0 := (blk_cell ha5 0).1; have p1 := (blk_cell ha5 1).1; have p2 := (blk_cell ha5 2).1; have l0 := (blk_cell hx5 0).1; have l1 := (blk_cell hx5 1).1; have l2 := (blk_cell hx5 2).1; simp only [List.getElem?_toArray, List.getElem?_cons_zero, List.getElem?_cons_succ] at p0 p1 p2 l0 l1 l2; clear hq5 hf5 ha5 hx5 hx5')
                | (go_at_call 35; refine (HAB.out _).mono ?_; rintro e w6 ⟨rfl, hb6⟩; have HQ6 := veil (HQ5.out.below hb6); have hx6 := (hb6.block Bl (Array.getElem?_eq_some_iff.1 HX5.out).1).trans HX5.out; have hk6 := (hb6.block w5.heap.size (by simp)).trans HK5.out; have HX6 := veil hx6; have HB6 := veil (HB5.out.trans (hb6.mono HB5.out.size)); have k0 := (blk_cell hk6 0).1; have k1 := (blk_cell hk6 1).1; have k2 := (blk_cell hk6 2).1; have m0 := (blk_cell hx6 0).1; have m1 := (blk_cell hx6 1).1; have m2 := (blk_cell hx6 2).1; have f0 := (blk_cell hx6 0).2; have f1 := (blk_cell hx6 1).2; have f2 := (blk_cell hx6 2).2; simp only [List.getElem?_toArray, List.getElem?_cons_zero, List.getElem?_cons_succ] at k0 k1 k2 m0 m1 m2; clear hb6 hx6 hk6))
              go_roundw
              case rel => exact ⟨i2 + 1, G3, kk, by omega, by go_num, HQ6.out.frame (fr_key3 w6 Bl kk) HNB.out, by have h1 := HSU.out; have h2 := HSi.out; omega, fun z hz => HZ2.out z (HSUB.out z hz), blk_key3 (k0 := lk) HX6.out, below_key3 HB6.out hwl kk⟩
              case measure => simp [intOf]; omega
          · have hil' : ¬ (i2 : Int) < (j : Int) := by omega
            have hs0 : sumH (gh G2) = 0 := by have := HSi.out; omega
            have HN := veil HQi.out.length
            rw [hs0] at HN
            go_wp2_with (go_at_call 24; refine (HN.out).mono ?_; rintro e w8 ⟨rfl, hw⟩; replace hw := hw.symm; subst hw)
            go_ret
            exact ⟨by simp, HBi.out⟩
      · have hl1' : ¬ (j : Int) < (len : Int) := by omega
        have HDE := veil (fun W => Ke.dead_ok W 0)
        go_wp2_with (go_at_call 34; refine (HDE.out _).mono ?_; rintro e w3 ⟨rfl, hb3⟩; have HQ3 := veil (HQj.out.below (hb3.alloc hb3.size (.cells #[.bool (Ke.deadK 0).e, .int .u64 (Ke.deadK 0).d, .int .u8 (Ke.deadK 0).l] 25))); have HX3 := veil (World.alloc_heap_new w3 (.cells #[.bool (Ke.deadK 0).e, .int .u64 (Ke.deadK 0).d, .int .u8 (Ke.deadK 0).l] 25)); have HB3 := veil (HBj.out.trans ((hb3.alloc hb3.size (.cells #[.bool (Ke.deadK 0).e, .int .u64 (Ke.deadK 0).d, .int .u8 (Ke.deadK 0).l] 25)).mono HBj.out.size)); have HNB : Hid (∀ k, O k → ¬ k = w3.heap.size) := (fun k hk e => by have := HQj.out.blocks k hk; have := hb3.size; omega); have hwl : w.heap.size ≤ w3.heap.size := (by have := HBj.out.size; have := hb3.size; omega); clear hb3)
        generalize w3.alloc (.cells #[.bool (Ke.deadK 0).e, .int .u64 (Ke.deadK 0).d, .int .u8 (Ke.deadK 0).l] 25) = W3 at *
        generalize w3.heap.size = Bl at *
        have HE2 : Hid (∀ z, Ent G z → Ke.up z.2 (Ke.deadK 0) = false) := fun z hz => by
          have := (HE.out z hz).2
          simp [Ke.up, Ke.deadK, this]
        clear HQj HBj HE
        go_loopw [9] (fun iv wr => ∃ (i2 : Nat) (G2 : List (List En)) (lk : Ke.K), i2 ≤ j ∧ iv = .int .i64 i2 ∧ PQ wr O (w.heap.size + 1) 64 4 3 (j + i2) G2 ∧ sumH (gh G2) + i2 = j ∧ (∀ z, Ent G2 z → Ke.up z.2 lk = false) ∧ wr.heap[Bl]? = some (.cells #[.bool lk.e, .int .u64 lk.d, .int .u8 lk.l] 25 (0, 0)) ∧ Below w.heap.size w wr) (fun iv _ => j - (intOf iv).toNat)
        case atStart => exact ⟨0, G, Ke.deadK 0, by omega, rfl, HQ3.out, HSM.out, HE2.out, HX3.out, HB3.out⟩
        case round =>
          obtain ⟨i2, G2, lk, hi2, rfl, hQ, hs, hE, hbx, hbel⟩ := hrel
          have HQi := veil hQ
          have HBi := veil hbel
          have HEi := veil hE
          have HXi := veil hbx
          have HSi := veil hs
          clear hQ hbel hE hbx hs
          by_cases hil : i2 < j
          · have hil' : (i2 : Int) < (j : Int) := by omega
            have hspos : 0 < sumH (gh G2) := by have := HSi.out; omega
            have hways : (∃ wv : Nat, wv = 0 ∧ ¬ (i2 : Int) < (len2 : Int)) ∨ (∃ wv : Nat, wv < 256 ∧ (i2 : Int) < (len2 : Int) ∧ ∃ lb2 off2, a2 = some ⟨lb2, off2, none⟩ ∧ wr.cell? ⟨lb2, off2 + i2, none⟩ = some (.int .u8 (wv : Int))) := by
              by_cases hq : i2 < len2
              · right
                rcases HD2.out with h0 | ⟨lb2, off2, rfl, hlb2, hc2⟩
                · omega
                · obtain ⟨g1, g2⟩ := hc2 i2 hq
                  exact ⟨L2 i2, g1, by omega, lb2, off2, rfl, (HBi.out.cell (p := ⟨lb2, off2 + i2, none⟩) hlb2).trans g2⟩
              · exact .inl ⟨0, rfl, by omega⟩
            rcases hways with ⟨wv, hwv0, hnl⟩ | ⟨wv, hwv, hnl, lb2, off2, rfl, hcw⟩
            · subst hwv0
              obtain ⟨kk, e1, e2, e3, ⟨z0, hz0, hz1⟩, hz2, hsum⟩ := HQi.out.next (p := 1) (d := 9) (p' := 0) (d' := 0) (by omega) (by omega) hspos
              have hub : Ke.up kk lk = false := by rw [← hz1]; exact HEi.out z0 hz0
              have HZ2 := veil hz2
              have HSU := veil hsum
              have HBEST := veil (HQi.out.best 1 9 (by omega))
              have HTAKE := veil (fun W (hW : PQ W O (w.heap.size + 1) 64 4 3 (j + i2) G2) => hW.take 0 0 (by omega))
              rw [e1] at HBEST
              rw [e2, e3] at HTAKE
              have HSUB := veil (took_sub (G := G2) (np := 4) (p := 0) (d := 0))
              generalize bI (gh G2) (bb 4 (gh G2) 1 9) = ti at *
              generalize bA (bb 4 (gh G2) 1 9) = ta at *
              generalize (bb 4 (gh G2) 1 9).isSome = ob at *
              generalize bI (gh G2) (bb 4 (gh G2) 0 0) = ti2 at *
              generalize bA (bb 4 (gh G2) 0 0) = ta2 at *
              generalize ptkG 4 (gh G2) 0 0 = G3 at *
              have hs1 : Ke.same kk kk = true := by rw [Ke.same_eq]; exact decide_eq_true rfl
              have HAB := veil (fun W => Ke.above_ok W kk lk)
              rw [hub] at HAB
              clear e1 e2 e3 hz0 hz1 hz2 hsum hub
              go_wp2_with (first
                | (go_at_call 17; refine (HBEST.out).mono ?_; rintro e w4 ⟨rfl, hb4⟩; have HQ4 := veil (HQi.out.below (hb4.alloc hb4.size (.cells #[.bool kk.e, .int .u64 kk.d, .int .u8 kk.l] 25))); have HB4 := veil (HBi.out.trans ((hb4.alloc hb4.size (.cells #[.bool kk.e, .int .u64 kk.d, .int .u8 kk.l] 25)).mono HBi.out.size)); have HA4 := veil (World.alloc_heap_new w4 (.cells #[.bool kk.e, .int .u64 kk.d, .int .u8 kk.l] 25)); have HX4 := veil (((hb4.alloc hb4.size (.cells #[.bool kk.e, .int .u64 kk.d, .int .u8 kk.l] 25)).block Bl (Array.getElem?_eq_some_iff.1 HXi.out).1).trans HXi.out); have hz4 : wr.heap.size ≤ w4.heap.size := hb4.size; clear hb4)
                | (go_at_call 25; refine (HTAKE.out _ HQ4.out).mono ?_; rintro e w5 ⟨rfl, hq5, hf5⟩; have HQ5 := veil (hq5.below ((Below.refl _ _).alloc (Nat.le_refl _) (.cells #[.bool kk.e, .int .u64 kk.d, .int .u8 kk.l] 25))); have hs45 : w4.heap.size < w5.heap.size := (by have := hf5.size; simp at this; omega); have ha5 := (Below.heap_alloc w5 (.cells #[.bool kk.e, .int .u64 kk.d, .int .u8 kk.l] 25) w4.heap.size hs45).trans ((hf5.block w4.heap.size (by simp) (fun q => by have := HQi.out.blocks _ q; omega)).trans HA4.out); have hx5' := (hf5.block Bl (Array.getElem?_eq_some_iff.1 HX4.out).1 (fun q => HNB.out _ q rfl)).trans HX4.out; have hx5 := (Below.heap_alloc w5 (.cells #[.bool kk.e, .int .u64 kk.d, .int .u8 kk.l] 25) Bl (Array.getElem?_eq_some_iff.1 hx5').1).trans hx5'; have HX5 := veil hx5; have HK5 := veil (World.alloc_heap_new w5 (.cells #[.bool kk.e, .int .u64 kk.d, .int .u8 kk.l] 25)); have HB5 := veil ((HB4.out.trans (hf5.below HB4.out.size HO.out)).alloc (HB4.out.trans (hf5.below HB4.out.size HO.out)).size (.cells #[.bool kk.e, .int .u64 kk.d, .int .u8 kk.l] 25)); have z0 : ¬ w4.heap.size = w5.heap.size := (by omega); have z1 : ¬ w5.heap.size = w4.heap.size := (by omega); have p0 := (blk_cell ha5 0).1; have p1 := (blk_cell ha5 1).1; have p2 := (blk_cell ha5 2).1; have l0 := (blk_cell hx5 0).1; have l1 := (blk_cell hx5 1).1; have l2 := (blk_cell hx5 2).1; simp only [List.getElem?_toArray, List.getElem?_cons_zero, List.getElem?_cons_succ] at p0 p1 p2 l0 l1 l2; clear hq5 hf5 ha5 hx5 hx5')
                | (go_at_call 35; refine (HAB.out _).mono ?_; rintro e w6 ⟨rfl, hb6⟩; have HQ6 := veil (HQ5.out.below hb6); have hx6 := (hb6.block Bl (Array.getElem?_eq_some_iff.1 HX5.out).1).trans HX5.out; have hk6 := (hb6.block w5.heap.size (by simp)).trans HK5.out; have HX6 := veil hx6; have HB6 := veil (HB5.out.trans (hb6.mono HB5.out.size)); have k0 := (blk_cell hk6 0).1; have k1 := (blk_cell hk6 1).1; have k2 := (blk_cell hk6 2).1; have m0 := (blk_cell hx6 0).1; have m1 := (blk_cell hx6 1).1; have m2 := (blk_cell hx6 2).1; have f0 := (blk_cell hx6 0).2; have f1 := (blk_cell hx6 1).2; have f2 := (blk_cell hx6 2).2; simp only [List.getElem?_toArray, List.getElem?_cons_zero, List.getElem?_cons_succ] at k0 k1 k2 m0 m1 m2; clear hb6 hx6 hk6))
              go_roundw
              case rel => exact ⟨i2 + 1, G3, kk, by omega, by go_num, HQ6.out.frame (fr_key3 w6 Bl kk) HNB.out, by have h1 := HSU.out; have h2 := HSi.out; omega, fun z hz => HZ2.out z (HSUB.out z hz), blk_key3 (k0 := lk) HX6.out, below_key3 HB6.out hwl kk⟩
              case measure => simp [intOf]; omega
            · obtain ⟨kk, e1, e2, e3, ⟨z0, hz0, hz1⟩, hz2, hsum⟩ := HQi.out.next (p := (((wv + 1) % 4 : Nat) : Int)) (d := 9) (p' := ((wv % 4 : Nat) : Int)) (d' := (wv : Int)) (by omega) (by omega) hspos
              have hwx : IntKind.i64.wrap (wv : Int) = (wv : Int) := by
                simp [IntKind.wrap, IntKind.bits, IntKind.signed]
                omega
              have hwu : IntKind.u64.wrap (wv : Int) = (wv : Int) := by
                simp [IntKind.wrap, IntKind.bits, IntKind.signed]
                omega
              have hr1 := rem4 wv
              have hr2 := rem4 (wv + 1)
              have hr3 : ((wv : Int) + 1).tmod 4 = (((wv + 1) % 4 : Nat) : Int) := by rw [← hr2]; push_cast; rfl
              have hub : Ke.up kk lk = false := by rw [← hz1]; exact HEi.out z0 hz0
              have HZ2 := veil hz2
              have HSU := veil hsum
              have HBEST := veil (HQi.out.best (((wv + 1) % 4 : Nat) : Int) 9 (by omega))
              have HTAKE := veil (fun W (hW : PQ W O (w.heap.size + 1) 64 4 3 (j + i2) G2) => hW.take ((wv % 4 : Nat) : Int) (wv : Int) (by omega))
              rw [e1] at HBEST
              rw [e2, e3] at HTAKE
              have HSUB := veil (took_sub (G := G2) (np := 4) (p := ((wv % 4 : Nat) : Int)) (d := (wv : Int)))
              generalize bI (gh G2) (bb 4 (gh G2) (((wv + 1) % 4 : Nat) : Int) 9) = ti at *
              generalize bA (bb 4 (gh G2) (((wv + 1) % 4 : Nat) : Int) 9) = ta at *
              generalize (bb 4 (gh G2) (((wv + 1) % 4 : Nat) : Int) 9).isSome = ob at *
              generalize bI (gh G2) (bb 4 (gh G2) ((wv % 4 : Nat) : Int) (wv : Int)) = ti2 at *
              generalize bA (bb 4 (gh G2) ((wv % 4 : Nat) : Int) (wv : Int)) = ta2 at *
              generalize ptkG 4 (gh G2) ((wv % 4 : Nat) : Int) (wv : Int) = G3 at *
              have hs1 : Ke.same kk kk = true := by rw [Ke.same_eq]; exact decide_eq_true rfl
              have HAB := veil (fun W => Ke.above_ok W kk lk)
              rw [hub] at HAB
              clear e1 e2 e3 hz0 hz1 hz2 hsum hub
              go_wp2_with (first
                | (go_at_call 17; refine (HBEST.out).mono ?_; rintro e w4 ⟨rfl, hb4⟩; have HQ4 := veil (HQi.out.below (hb4.alloc hb4.size (.cells #[.bool kk.e, .int .u64 kk.d, .int .u8 kk.l] 25))); have HB4 := veil (HBi.out.trans ((hb4.alloc hb4.size (.cells #[.bool kk.e, .int .u64 kk.d, .int .u8 kk.l] 25)).mono HBi.out.size)); have HA4 := veil (World.alloc_heap_new w4 (.cells #[.bool kk.e, .int .u64 kk.d, .int .u8 kk.l] 25)); have HX4 := veil (((hb4.alloc hb4.size (.cells #[.bool kk.e, .int .u64 kk.d, .int .u8 kk.l] 25)).block Bl (Array.getElem?_eq_some_iff.1 HXi.out).1).trans HXi.out); have hz4 : wr.heap.size ≤ w4.heap.size := hb4.size; clear hb4)
                | (go_at_call 25; refine (HTAKE.out _ HQ4.out).mono ?_; rintro e w5 ⟨rfl, hq5, hf5⟩; have HQ5 := veil (hq5.below ((Below.refl _ _).alloc (Nat.le_refl _) (.cells #[.bool kk.e, .int .u64 kk.d, .int .u8 kk.l] 25))); have hs45 : w4.heap.size < w5.heap.size := (by have := hf5.size; simp at this; omega); have ha5 := (Below.heap_alloc w5 (.cells #[.bool kk.e, .int .u64 kk.d, .int .u8 kk.l] 25) w4.heap.size hs45).trans ((hf5.block w4.heap.size (by simp) (fun q => by have := HQi.out.blocks _ q; omega)).trans HA4.out); have hx5' := (hf5.block Bl (Array.getElem?_eq_some_iff.1 HX4.out).1 (fun q => HNB.out _ q rfl)).trans HX4.out; have hx5 := (Below.heap_alloc w5 (.cells #[.bool kk.e, .int .u64 kk.d, .int .u8 kk.l] 25) Bl (Array.getElem?_eq_some_iff.1 hx5').1).trans hx5'; have HX5 := veil hx5; have HK5 := veil (World.alloc_heap_new w5 (.cells #[.bool kk.e, .int .u64 kk.d, .int .u8 kk.l] 25)); have HB5 := veil ((HB4.out.trans (hf5.below HB4.out.size HO.out)).alloc (HB4.out.trans (hf5.below HB4.out.size HO.out)).size (.cells #[.bool kk.e, .int .u64 kk.d, .int .u8 kk.l] 25)); have z0 : ¬ w4.heap.size = w5.heap.size := (by omega); have z1 : ¬ w5.heap.size = w4.heap.size := (by omega); have p0 := (blk_cell ha5 0).1; have p1 := (blk_cell ha5 1).1; have p2 := (blk_cell ha5 2).1; have l0 := (blk_cell hx5 0).1; have l1 := (blk_cell hx5 1).1; have l2 := (blk_cell hx5 2).1; simp only [List.getElem?_toArray, List.getElem?_cons_zero, List.getElem?_cons_succ] at p0 p1 p2 l0 l1 l2; clear hq5 hf5 ha5 hx5 hx5')
                | (go_at_call 35; refine (HAB.out _).mono ?_; rintro e w6 ⟨rfl, hb6⟩; have HQ6 := veil (HQ5.out.below hb6); have hx6 := (hb6.block Bl (Array.getElem?_eq_some_iff.1 HX5.out).1).trans HX5.out; have hk6 := (hb6.block w5.heap.size (by simp)).trans HK5.out; have HX6 := veil hx6; have HB6 := veil (HB5.out.trans (hb6.mono HB5.out.size)); have k0 := (blk_cell hk6 0).1; have k1 := (blk_cell hk6 1).1; have k2 := (blk_cell hk6 2).1; have m0 := (blk_cell hx6 0).1; have m1 := (blk_cell hx6 1).1; have m2 := (blk_cell hx6 2).1; have f0 := (blk_cell hx6 0).2; have f1 := (blk_cell hx6 1).2; have f2 := (blk_cell hx6 2).2; simp only [List.getElem?_toArray, List.getElem?_cons_zero, List.getElem?_cons_succ] at k0 k1 k2 m0 m1 m2; clear hb6 hx6 hk6))
              go_roundw
              case rel => exact ⟨i2 + 1, G3, kk, by omega, by go_num, HQ6.out.frame (fr_key3 w6 Bl kk) HNB.out, by have h1 := HSU.out; have h2 := HSi.out; omega, fun z hz => HZ2.out z (HSUB.out z hz), blk_key3 (k0 := lk) HX6.out, below_key3 HB6.out hwl kk⟩
              case measure => simp [intOf]; omega
          · have hil' : ¬ (i2 : Int) < (j : Int) := by omega
            have hs0 : sumH (gh G2) = 0 := by have := HSi.out; omega
            have HN := veil HQi.out.length
            rw [hs0] at HN
            go_wp2_with (go_at_call 24; refine (HN.out).mono ?_; rintro e w8 ⟨rfl, hw⟩; replace hw := hw.symm; subst hw)
            go_ret
            exact ⟨by simp, HBi.out⟩
end Go.Proofs.Ytlfejgjhamcahaa
