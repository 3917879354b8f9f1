/-
  No id is told twice; the walk of ProcsOne.
-/
import Derived.Test.YtlfejgjhamcahaaMZ36
namespace Go.Proofs.Ytlfejgjhamcahaa
open Go.RowKit Go.Lib
set_option linter.unusedVariables false
attribute [local go_sem ↓] Go.wp_at_zero Go.wp_at_succ

theorem nd_inj : ∀ {l : List Nat}, l.Nodup → ∀ {i j : Nat} (hi : i < l.length) (hj : j < l.length), l[i] = l[j] → i = j
  | [], _, _, _, hi, _, _ => by simp at hi
  | x :: l, hn, 0, 0, _, _, _ => rfl
  | x :: l, hn, 0, j + 1, _, hj, e => by
    rw [List.nodup_cons] at hn
    simp at e
    exact absurd (by rw [e]; exact List.getElem_mem _) hn.1
  | x :: l, hn, i + 1, 0, hi, _, e => by
    rw [List.nodup_cons] at hn
    simp at e
    exact absurd (by rw [← e]; exact List.getElem_mem _) hn.1
  | x :: l, hn, i + 1, j + 1, hi, hj, e => by
    rw [List.nodup_cons] at hn
    have := nd_inj hn.2 (i := i) (j := j) (by simpa using hi) (by simpa using hj) (by simpa using e)
    omega
/-- The ten marks of what was seen. -/
def marks (S : Nat → Bool) : Array Value := ((List.range 10).map (fun k => Value.bool (S k))).toArray
theorem marks_at (S : Nat → Bool) (k : Nat) (hk : k < 10) : (marks S)[k]? = some (.bool (S k)) := by
  unfold marks
  simp [hk]
theorem marks_set (S : Nat → Bool) (k : Nat) (hk : k < 10) : (marks S).setIfInBounds k (.bool true) = marks (fun j => if j = k then true else S j) := by
  unfold marks
  rw [List.setIfInBounds_toArray]
  congr 1
  apply List.ext_getElem?
  intro j
  rw [List.getElem?_set, List.getElem?_map, List.getElem?_map]
  by_cases e : k = j
  · subst e
    rw [if_pos rfl, if_pos (by simp; exact hk), List.getElem?_range hk]
    simp
  · rw [if_neg e]
    by_cases hj : j < 10
    · rw [List.getElem?_range hj]
      simp [show ¬ j = k from fun q => e q.symm]
    · rw [List.getElem?_eq_none (by simp; omega)]
      rfl
def lenAt (G : List (List En)) (i : Nat) : Nat := ((G[i]?).getD []).length
def sumTo (G : List (List En)) (i : Nat) : Nat := ((G.take i).map List.length).sum
theorem sumTo_succ (G : List (List En)) (i : Nat) : sumTo G (i + 1) = sumTo G i + lenAt G i := by
  unfold sumTo lenAt
  rw [List.take_add_one]
  cases G[i]? <;> simp
theorem sumTo_all (G : List (List En)) (i : Nat) (h : G.length ≤ i) : sumTo G i = sumH (gh G) := by
  unfold sumTo
  rw [List.take_of_length_le h, sumH_ms, Ms_gh]
theorem lst_at (G : List (List En)) (i : Nat) : lst (gh G) (i : Int) = idE ((G[i]?).getD []) := by
  unfold lst
  rw [gh_len, MM_ms, Ms_gh]
  split
  · rfl
  · rw [List.getElem?_eq_none (by omega)]
    rfl
/-- What was seen so far: ids of places ahead of i, and the first j of place i. -/
def SeenB (G : List (List En)) (i j : Nat) (S : Nat → Bool) : Prop := ∀ k, S k = true → (∃ i' M, i' < i ∧ G[i']? = some M ∧ (keyOf M k).isSome = true) ∨ ∃ M, G[i]? = some M ∧ ∃ (j' : Nat) (y : En), j' < j ∧ M[j']? = some y ∧ y.1 = k
section
variable {w : World} {O : Nat → Prop} {pb n np q T : Nat} {G : List (List En)} {S : Nat → Bool} {i j : Nat}
theorem SeenB.next (h : SeenB G i j S) (hl : ∀ M, G[i]? = some M → M.length = j) (hn : ∀ M, G[i]? = some M → True) : SeenB G (i + 1) 0 S := by
  intro k hk
  rcases h k hk with ⟨i', M, h1, h2, h3⟩ | ⟨M, hM, j', y, hj, hy, e⟩
  · exact .inl ⟨i', M, by omega, h2, h3⟩
  · exact .inl ⟨i, M, by omega, hM, by rw [has_iff]; exact ⟨y, List.mem_of_getElem? hy, e⟩⟩
theorem SeenB.put (h : SeenB G i j S) {M : List En} {y : En} (hM : G[i]? = some M) (hy : M[j]? = some y) : SeenB G i (j + 1) (fun k => if k = y.1 then true else S k) := by
  intro k hk
  by_cases e : k = y.1
  · exact .inr ⟨M, hM, j, y, by omega, hy, e.symm⟩
  · simp only [if_neg e] at hk
    rcases h k hk with q | ⟨M', hM', j', z, hj, hz, e'⟩
    · exact .inl q
    · exact .inr ⟨M', hM', j', z, by omega, hz, e'⟩
theorem PQ.unseen (h : PQ w O pb n np q T G) (hs : SeenB G i j S) {M : List En} {y : En} (hM : G[i]? = some M) (hy : M[j]? = some y) : S y.1 = false ∧ y.1 < n ∧ whereF n (gh G) 0 (y.1 : Int) = some (i : Int) := by
  obtain ⟨hnd, hrn, _, _⟩ := h.at hM
  have hym := List.mem_of_getElem? hy
  have hgi : (gh G)[i]? = some ⟨0, 0, 0, 0, 0, 0, M⟩ := by unfold gh; rw [List.getElem?_map, hM]; rfl
  have hyk : (keyOf M y.1).isSome = true := by rw [has_iff]; exact ⟨y, hym, rfl⟩
  refine ⟨?_, hrn y hym, whereF_some n (gh G) h.un i _ hgi y.1 (hrn y hym) hyk⟩
  cases hS : S y.1 with
  | false => rfl
  | true =>
    rcases hs y.1 hS with ⟨i', M', h1, h2, h3⟩ | ⟨M', hM', j', z, hj, hz, e⟩
    · have hgi' : (gh G)[i']? = some ⟨0, 0, 0, 0, 0, 0, M'⟩ := by unfold gh; rw [List.getElem?_map, h2]; rfl
      have := h.un i' i _ _ y.1 hgi' hgi h3 hyk
      omega
    · rw [hM] at hM'
      injection hM' with hM'
      subst hM'
      have hjj : j' = j := by
        have h1 : (M.map (·.1))[j']? = some y.1 := by rw [List.getElem?_map, hz]; exact congrArg some e
        have h2 : (M.map (·.1))[j]? = some y.1 := by rw [List.getElem?_map, hy]; rfl
        obtain ⟨l1, e1⟩ := List.getElem?_eq_some_iff.1 h1
        obtain ⟨l2, e2⟩ := List.getElem?_eq_some_iff.1 h2
        exact nd_inj hnd l1 l2 (e1.trans e2.symm)
      omega
end
set_option maxHeartbeats 8000000 in
set_option maxRecDepth 20000 in
theorem ProcsOne_walk (m : Nat) (hm : m < 256) (a : Option Addr) (len cap : Nat) (L : Nat → Dp) (hlen : len < 9223372036854775808) (w : World) (hd : Dps w a len L) :
    Calls Try.prog 5 #[.int .u8 m, .slice a len cap] w fun e w' => e = .returned (.bool true) ∧ Below w.heap.size w w' := by
  have HP := veil (play_ok w m hm a len cap hlen L hd)
  have hN4 : m % 4 < 4 := Nat.mod_lt _ (by decide)
  clear hd
  go_enter Try.func5, Try.ntmps5
  go_wp2_with (first
    | (go_at_call 14; refine (HP.out).mono ?_; rintro e w1 ⟨O, D, base, pb, rb, T, G, rfl, h1, h2, h3, ht, hB, hL⟩; have HB := veil hB.pq; have HL := veil hL; have HO := veil h1; clear hB hL h1 h2 h3)
    | (go_at_call 15; refine (live_procs _).mono ?_; rintro e w2 ⟨rfl, hb2⟩; have HB2 := veil (HB.out.below hb2); have HL2 := veil (HL.out.trans (hb2.mono HL.out.size)); clear hb2))
  have HM0 : Hid ((w2.alloc (.cells #[.bool false, .bool false, .bool false, .bool false, .bool false, .bool false, .bool false, .bool false, .bool false, .bool false] 43)).heap[w2.heap.size]? = some (.cells (marks (fun _ => false)) 43 (0, 0))) := World.alloc_heap_new w2 _
  have HQ0 := veil (HB2.out.below ((Below.refl _ _).alloc (Nat.le_refl _) (.cells #[.bool false, .bool false, .bool false, .bool false, .bool false, .bool false, .bool false, .bool false, .bool false, .bool false] 43)))
  have HL0 := veil (HL2.out.alloc HL2.out.size (.cells #[.bool false, .bool false, .bool false, .bool false, .bool false, .bool false, .bool false, .bool false, .bool false, .bool false] 43))
  have HNB : Hid (∀ k, O k → ¬ k = w2.heap.size) := fun k hk e => by have := HB2.out.blocks k hk; omega
  have hwb : w.heap.size ≤ w2.heap.size := HL2.out.size
  have HGL : Hid (G.length ≤ 6) := by have := HB2.out.len; unfold Hid; omega
  have hsl := HB2.out.sum_le
  clear HB HL HB2 HL2 HP
  generalize w2.alloc (.cells #[.bool false, .bool false, .bool false, .bool false, .bool false, .bool false, .bool false, .bool false, .bool false, .bool false] 43) = W0 at *
  generalize w2.heap.size = B at *
  have HSS : Hid (∀ i, sumTo G i ≤ 66560) := fun i => by
    rcases Nat.lt_or_ge i G.length with q | q
    · have : sumTo G i ≤ sumTo G G.length := by
        have key : ∀ d, sumTo G i ≤ sumTo G (i + d) := by
          intro d
          induction d with
          | zero => exact Nat.le_refl _
          | succ d ih => rw [← Nat.add_assoc, sumTo_succ]; omega
        have := key (G.length - i)
        rw [show i + (G.length - i) = G.length by omega] at this
        exact this
      rw [sumTo_all G G.length (Nat.le_refl _)] at this
      omega
    · rw [sumTo_all G i q]; omega
  go_loopw [9, 10] (fun mv iv wr => ∃ (i : Nat) (S : Nat → Bool), i ≤ 6 ∧ iv = .int .i64 (i : Int) ∧ mv = .int .i64 (sumTo G i : Int) ∧ SeenB G i 0 S ∧ wr.heap[B]? = some (.cells (marks S) 43 (0, 0)) ∧ Fr (fun k => k = B) W0 wr) (fun _ iv _ => 6 - (intOf iv).toNat)
  case atStart => exact ⟨0, _, by omega, rfl, rfl, fun k hk => (by cases hk), HM0.out, Fr.refl _ _⟩
  case round =>
    obtain ⟨i, S, hi, rfl, rfl, hS, hmk, hfr⟩ := hrel
    have HQ := veil (HQ0.out.frame hfr HNB.out)
    have HLr := veil (HL0.out.trans (hfr.below HL0.out.size (fun k e => by omega)))
    by_cases hil : i < 6
    · have hil' : (i : Int) < 6 := by omega
      obtain ⟨M, hMd⟩ : ∃ M, (G[i]?).getD [] = M := ⟨_, rfl⟩
      have HLI := veil (HQ.out.list (i : Int))
      rw [lst_at, hMd] at HLI
      have HMD := veil hMd
      have HS := veil hS
      have HMK := veil hmk
      have HFR := veil hfr
      have HST : Hid (sumTo G (i + 1) = sumTo G i + M.length) := by unfold Hid; rw [sumTo_succ, ← hMd]; rfl
      have hs1 := HSS.out i
      have hs2 := HSS.out (i + 1)
      rw [HST.out] at hs2
      generalize sumTo G i = si at *
      clear hS hmk hfr hMd
      go_wp2_with (go_at_call 19; refine (HLI.out).mono ?_; rintro e w4 ⟨v4, rfl, hI4, hb⟩; have HI4 := veil hI4; have HB4 := veil hb; obtain ⟨av, cv, rfl⟩ := hI4.slice; clear hb hI4)
      have hli : (idE M).length = M.length := idE_len M
      have HMK4 := veil ((HB4.out.block B (Array.getElem?_eq_some_iff.1 HMK.out).1).trans HMK.out)
      have HQ4 := veil (HQ.out.below HB4.out)
      have hbr : B < wr.heap.size := (Array.getElem?_eq_some_iff.1 HMK.out).1
      have HFR4 : Hid (Fr (fun k => k = B) W0 w4) := HFR.out.trans (Fr.of_below' HB4.out)
      have HBr := veil (show B < wr.heap.size from hbr)
      rw [hli] at HI4 ⊢
      generalize wr = Wo at *
      go_loopw [9, 12] (fun mv jv wr => ∃ (j : Nat) (S : Nat → Bool), j ≤ M.length ∧ jv = .int .i64 (j : Int) ∧ mv = .int .i64 ((si + j : Nat) : Int) ∧ SeenB G i j S ∧ wr.heap[B]? = some (.cells (marks S) 43 (0, 0)) ∧ Fr (fun k => k = B) w4 wr) (fun _ jv _ => M.length - (intOf jv).toNat)
      case atStart => exact ⟨0, S, by omega, rfl, rfl, HS.out, HMK4.out, Fr.refl _ _⟩
      case round =>
        obtain ⟨j, S1, hj, rfl, rfl, hS1, hmk1, hfr1⟩ := hrel
        have HQ5 := veil (HQ4.out.frame hfr1 HNB.out)
        have HFR5 := veil (HFR4.out.trans hfr1)
        by_cases hjl : j < M.length
        · have hjl' : (j : Int) < (M.length : Int) := by omega
          obtain ⟨y, hy⟩ : ∃ y, M[j]? = some y := ⟨_, List.getElem?_eq_getElem hjl⟩
          have hGM : G[i]? = some M := by
            cases hG : G[i]? with
            | none =>
              have e : M = [] := by have := HMD.out; rw [hG] at this; exact this.symm
              rw [e] at hjl
              simp at hjl
            | some M' => have := HMD.out; rw [hG] at this; simp at this; rw [this]
          obtain ⟨hsy, hy10, hwy⟩ := HQ5.out.unseen hS1 hGM hy
          have hcell : ∃ g, av = some ⟨g, 0, none⟩ ∧ wr.cell? ⟨g, j, none⟩ = some (.int .i64 (y.1 : Int)) := by
            have hne : idE M ≠ [] := by intro e; have : (idE M).length = 0 := by rw [e]; rfl
                                        omega
            have hI5 := owns_at HI4.out hfr1 (fun k hk e => by have := (Dc.own_ge HI4.out k hk).1; have := HBr.out; omega)
            have hI5' : Dc.IL wr Wo.heap.size (.slice av (idE M).length cv) (idE M) := by
              have := hI5
              rw [← hli] at this
              exact this
            obtain ⟨g, cg, e, _, _, h3⟩ := hI5'.cells hne
            simp at e
            refine ⟨g, e.1, ?_⟩
            rw [h3 j (by omega)]
            unfold idE
            simp [List.getD, hy]
          obtain ⟨g, rfl, hc1⟩ := hcell
          have HWH := veil (HQ5.out.where (y.1 : Int) (wf_nat (by omega)))
          rw [hwy] at HWH
          simp only [Option.getD_some, Option.isSome_some] at HWH
          have HS2 := veil (hS1.put hGM hy)
          have m1 : wr.cell? ⟨B, y.1, none⟩ = some (.bool false) := by rw [(blk_cell hmk1 y.1).1, marks_at S1 y.1 hy10, hsy]
          have m2 := (blk_cell hmk1 y.1).2
          have HMK2 := veil (show (wr.setCell ⟨B, y.1, none⟩ (.bool true)).heap[B]? = some (.cells (marks (fun k => if k = y.1 then true else S1 k)) 43 (0, 0)) by
            have := Go.Joins.block_setCell (i := y.1) hmk1 (.bool true)
            rw [marks_set S1 y.1 hy10] at this
            exact this)
          have HF2 := veil (hfr1.setCell (a := ⟨B, y.1, none⟩) rfl (.bool true))
          have y0 : ¬ (y.1 : Int) < 0 := by omega
          have y1 : ¬ (10 : Int) ≤ (y.1 : Int) := by omega
          have y2 : (y.1 : Int) < 10 := by omega
          obtain ⟨yi, yk⟩ := y
          simp only at hc1 HWH HS2 m1 m2 HMK2 HF2 y0 y1 y2 hy10
          clear hS1 hmk1 hfr1 hy hwy hsy hGM
          go_wp2_with (first
            | (go_at_call 23; refine (HWH.out).mono ?_; rintro e w8 ⟨rfl, hw⟩; replace hw := hw.symm; subst hw))
          go_roundw
          case rel => exact ⟨j + 1, _, by omega, by go_num, by go_num, HS2.out, HMK2.out, HF2.out⟩
          case measure => simp [intOf]; omega
        · have hjl' : ¬ (j : Int) < (M.length : Int) := by omega
          have HSN := veil (hS1.next (fun M' hM' => by have := HMD.out; rw [hM'] at this; simp at this; rw [this]; omega) (fun _ _ => trivial))
          have HMK5 := veil hmk1
          have hje : j = M.length := by omega
          have HSE : Hid (((si + j : Nat) : Int) = (sumTo G (i + 1) : Int)) := by unfold Hid; rw [HST.out, hje]
          clear hS1 hmk1 hfr1 hje
          go_wp2
          go_roundw
          case rel => exact ⟨i + 1, S1, by omega, by go_num, by rw [HSE.out], HSN.out, HMK5.out, HFR5.out⟩
          case measure => simp [intOf]; omega
    · have hi6 : i = 6 := by omega
      have hil' : ¬ (i : Int) < 6 := by omega
      have HEN : Hid (sumTo G i = sumH (gh G)) := sumTo_all G i (by have := HGL.out; omega)
      have HN := veil HQ.out.length
      rw [HEN.out]
      clear hS hmk hfr
      go_wp2_with (go_at_call 24; refine (HN.out).mono ?_; rintro e w8 ⟨rfl, hw⟩; replace hw := hw.symm; subst hw)
      go_ret
      exact ⟨by simp, HLr.out⟩
end Go.Proofs.Ytlfejgjhamcahaa
