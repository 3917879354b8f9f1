/-
  Where Put puts something; the walk of ProcsRoom.
-/
import Derived.Test.YtlfejgjhamcahaaMZ36
namespace Go.Proofs.Ytlfejgjhamcahaa
open Go.RowKit Go.Lib
set_option linter.unusedVariables false
attribute [local go_sem ↓] Go.wp_at_zero Go.wp_at_succ

section
variable {w : World} {O : Nat → Prop} {pb n np q T : Nat} {G : List (List En)}
theorem PQ.placed (h : PQ w O pb n np q T G) {p id : Int} {k : Ke.K} (hc : pputC np n (gh G) p id k = 0) : 0 ≤ p ∧ p < (np : Int) ∧ whereF n (gh (pputG np n q (gh G) p id k)) 0 id = some ((aPut np n q (gh G) p.toNat : Nat) : Int) := by
  have hc' := hc
  unfold pputC at hc
  by_cases hno : (p < 0 ∨ (np : Int) ≤ p) ∨ Bad n id k
  · rw [if_pos hno] at hc; cases hc
  rw [if_neg hno] at hc
  cases hw : whereF n (gh G) 0 id with
  | some c => rw [hw] at hc; simp at hc
  | none =>
    have hnb : ¬ Bad n id k := fun q => hno (.inr q)
    rcases bad_cases n [] id k with hb | ⟨i, rfl, hi, hr, _⟩
    · exact absurd hb hnb
    refine ⟨by omega, by omega, ?_⟩
    unfold pputG
    rw [if_pos hc', Ms_gh, gh_set]
    have hal : aPut np n q (gh G) p.toNat < (gh G).length := by
      rw [gh_len, h.len]
      unfold aPut
      split <;> omega
    have hx : (gh G)[aPut np n q (gh G) p.toNat]? = some ((gh G)[aPut np n q (gh G) p.toNat]'hal) := List.getElem?_eq_getElem _
    generalize (gh G)[aPut np n q (gh G) p.toNat] = x at hx
    rw [MM_at hx]
    obtain ⟨_, u2⟩ := where_put (n := n) (y := ⟨0, 0, 0, 0, 0, 0, Go.Proofs.Ytlfejgjhamcahaa.put (i, k) x.M⟩) h.un hx hi (k := k) rfl hw
    rw [show ((i : Int)).toNat = i from rfl, u2]
    unfold setF
    rw [if_pos rfl]
theorem PQ.roomP (h : PQ w O pb n np q T G) (i : Nat) (hi : i < np) : (lst (gh G) (i : Int)).length ≤ min q n := by
  unfold lst
  split
  · rw [idE_len, MM_ms, Ms_gh]
    cases hM : G[((i : Int)).toNat]? with
    | none => simp
    | some M =>
      have h1 := (h.at hM).2.2.1
      have e : moP np n q ((i : Int)).toNat = min q n := by unfold moP; rw [if_pos (by omega)]
      rw [e] at h1
      exact h1
  · simp
theorem lst_full (h : PQ w O pb n np q T G) (p : Nat) (hp : p < np) : (lst (gh G) (p : Int)).length = (MM (gh G) p).length := by
  unfold lst
  rw [if_pos (by rw [gh_len, h.len]; omega), idE_len]
  rfl
end
set_option maxHeartbeats 8000000 in
set_option maxRecDepth 20000 in
theorem ProcsRoom_walk (m : Nat) (hm : m < 256) (a : Option Addr) (len cap : Nat) (L : Nat → Dp) (hlen : len < 9223372036854775808) (w : World) (hd : Dps w a len L) (x : Dp) (hx : x.ok) :
    Calls Try.prog 7 #[.int .u8 m, .slice a len cap, .agg #[.int .i64 x.k, .int .i64 x.p, .int .i64 x.i, .bool x.e, .int .u64 x.d, .int .u8 x.l, .int .u64 x.r]] w fun e w' => e = .returned (.bool true) ∧ Below w.heap.size w w' := by
  have wfi : (Lit.int .i64 x.i).wf = true := hx.2.1
  have hA : Below w.heap.size w (w.alloc (.cells #[.int .i64 x.k, .int .i64 x.p, .int .i64 x.i, .bool x.e, .int .u64 x.d, .int .u8 x.l, .int .u64 x.r] 27)) := (Below.refl _ _).alloc (Nat.le_refl _) _
  have HA := veil hA
  have HP := veil (play_ok (w.alloc (.cells #[.int .i64 x.k, .int .i64 x.p, .int .i64 x.i, .bool x.e, .int .u64 x.d, .int .u8 x.l, .int .u64 x.r] 27)) m hm a len cap hlen L (hd.below hA))
  have hblk : (w.alloc (.cells #[.int .i64 x.k, .int .i64 x.p, .int .i64 x.i, .bool x.e, .int .u64 x.d, .int .u8 x.l, .int .u64 x.r] 27)).heap[w.heap.size]? = some (.cells #[.int .i64 x.k, .int .i64 x.p, .int .i64 x.i, .bool x.e, .int .u64 x.d, .int .u8 x.l, .int .u64 x.r] 27 (0, 0)) := World.alloc_heap_new w _
  have HC : Hid (∀ W, Below (w.alloc (.cells #[.int .i64 x.k, .int .i64 x.p, .int .i64 x.i, .bool x.e, .int .u64 x.d, .int .u8 x.l, .int .u64 x.r] 27)).heap.size (w.alloc (.cells #[.int .i64 x.k, .int .i64 x.p, .int .i64 x.i, .bool x.e, .int .u64 x.d, .int .u8 x.l, .int .u64 x.r] 27)) W → W.cell? ⟨w.heap.size, 1, none⟩ = some (.int .i64 x.p) ∧ W.cell? ⟨w.heap.size, 2, none⟩ = some (.int .i64 x.i) ∧ W.cell? ⟨w.heap.size, 3, none⟩ = some (.bool x.e) ∧ W.cell? ⟨w.heap.size, 4, none⟩ = some (.int .u64 x.d) ∧ W.cell? ⟨w.heap.size, 5, none⟩ = some (.int .u8 x.l)) := fun W hW => by
    have hb := (hW.block _ (by simp)).trans hblk
    exact ⟨(blk_cell hb 1).1, (blk_cell hb 2).1, (blk_cell hb 3).1, (blk_cell hb 4).1, (blk_cell hb 5).1⟩
  have hr := rem4 m
  have hq := div43 m
  have hq' : (m : Int) / 4 % 3 = ((m / 4 % 3 : Nat) : Int) := by omega
  have hr' : (m : Int) % 4 = ((m % 4 : Nat) : Int) := by omega
  have hN4 : m % 4 < 4 := Nat.mod_lt _ (by decide)
  have hQ3 : m / 4 % 3 < 3 := Nat.mod_lt _ (by decide)
  generalize m % 4 = N at *
  generalize m / 4 % 3 = Q at *
  clear hd hA hblk
  go_enter Try.func7, Try.ntmps7
  go_wp2_with (first
    | (go_at_call 14; refine (HP.out).mono ?_; rintro e w1 ⟨O, D, base, pb, rb, T, G, rfl, h1, h2, h3, ht, hB, hL⟩; have HB := veil hB.pq; have HL := veil hL; have HO := veil h1; clear hB hL h1 h2 h3)
    | (go_at_call 15; refine (live_procs _).mono ?_; rintro e w2 ⟨rfl, hb2⟩; have HB2 := veil (HB.out.below hb2); have HL2 := veil (HL.out.trans (hb2.mono HL.out.size)); clear hb2))
  have HRO := veil HB2.out.roomP
  have hpl := fun hc => HB2.out.placed (p := x.p) (id := x.i) (k := ⟨x.e, x.d, x.l⟩) hc
  have HPL := veil hpl
  have HFU := veil (fun p hp => lst_full HB2.out p hp)
  clear hpl HP HB HL hr hr' hq hq'
  go_loopw [12] (fun i wr => ∃ j : Nat, j ≤ N + 1 ∧ i = .int .i64 j ∧ Below w2.heap.size w2 wr) (fun i _ => N + 1 - (intOf i).toNat)
  case atStart => exact ⟨0, by omega, rfl, Below.refl _ _⟩
  case round =>
    obtain ⟨j, hj, rfl, hbel⟩ := hrel
    have HQ := veil (HB2.out.below hbel)
    have HLq := veil (HL2.out.trans (hbel.mono HL2.out.size))
    have HBE := veil hbel
    clear hbel
    by_cases hjl : j < N + 1
    · have hjl' : (j : Int) < (N : Int) + 1 := by omega
      have hlen1 := HRO.out j hjl
      have HLI := veil (HQ.out.list (j : Int))
      generalize lst (gh G) (j : Int) = l at *
      have hll : ¬ (Q : Int) + 1 < (l.length : Int) := by omega
      go_wp2_with (go_at_call 19; refine (HLI.out).mono ?_; rintro e w3 ⟨v3, rfl, hil, hb⟩; obtain ⟨av, cv, rfl⟩ := hil.slice; have HB3 := veil hb; clear hb hil)
      go_roundw
      case rel => exact ⟨j + 1, by omega, by go_num, HBE.out.trans (HB3.out.mono HBE.out.size)⟩
      case measure => simp [intOf]; omega
    · have hjl' : ¬ (j : Int) < (N : Int) + 1 := by omega
      obtain ⟨c1, c2, c3, c4, c5⟩ := HC.out _ HLq.out
      have HLI := veil (HQ.out.list x.p)
      have HPU := veil (fun W (hW : PQ W O pb 10 (N + 1) (Q + 1) T G) => hW.put (by omega) x.p x.i ⟨x.e, x.d, x.l⟩ hx.k)
      have HWH := veil (fun W (hW : PQ W O pb 10 (N + 1) (Q + 1) (T + 1) (pputG (N + 1) 10 (Q + 1) (gh G) x.p x.i ⟨x.e, x.d, x.l⟩)) => hW.where x.i wfi)
      have HFP : Hid (pputC (N + 1) 10 (gh G) x.p x.i ⟨x.e, x.d, x.l⟩ = 0 → ∃ at', whereF 10 (gh (pputG (N + 1) 10 (Q + 1) (gh G) x.p x.i ⟨x.e, x.d, x.l⟩)) 0 x.i = some at' ∧ (((Q : Int) + 1 ≤ ((lst (gh G) x.p).length : Int) ∧ at' = (N : Int) + 1) ∨ (¬ (Q : Int) + 1 ≤ ((lst (gh G) x.p).length : Int) ∧ at' = x.p))) := fun hc => by
        obtain ⟨q1, q2, q3⟩ := HPL.out hc
        obtain ⟨p, hp⟩ := Int.eq_ofNat_of_zero_le q1
        rw [hp] at q2 q3 ⊢
        refine ⟨_, q3, ?_⟩
        rw [HFU.out p (by omega)]
        unfold aPut
        rw [show ((p : Int)).toNat = p from rfl]
        split
        · exact .inr ⟨by omega, rfl⟩
        · exact .inl ⟨by omega, by omega⟩
      generalize lst (gh G) x.p = l at *
      generalize pputG (N + 1) 10 (Q + 1) (gh G) x.p x.i ⟨x.e, x.d, x.l⟩ = G' at *
      generalize pputC (N + 1) 10 (gh G) x.p x.i ⟨x.e, x.d, x.l⟩ = cc at *
      clear HRO HPL HFU
      by_cases hcc : cc = 0
      · subst hcc
        obtain ⟨at', e1, hat⟩ := HFP.out rfl
        rw [e1] at HWH
        simp only [Option.getD_some, Option.isSome_some] at HWH
        clear HFP e1
        rcases hat with ⟨hf, rfl⟩ | ⟨hf, rfl⟩
        · go_wp2_with (first
            | (go_at_call 19; refine (HLI.out).mono ?_; rintro e w3 ⟨v3, rfl, hil, hb⟩; obtain ⟨av, cv, rfl⟩ := hil.slice; have HQ3 := veil (HQ.out.below hb); have HL3 := veil (HLq.out.trans (hb.mono HLq.out.size)); obtain ⟨d1, d2, d3, d4, d5⟩ := HC.out _ HL3.out; clear hb hil)
            | (go_at_call 26; refine (HPU.out _ HQ3.out).mono ?_; rintro e w4 ⟨rfl, hq4, hf4⟩; have HQ4 := veil hq4; have HL4 := veil (HL3.out.trans (hf4.below HL3.out.size HO.out)); obtain ⟨f1, f2, f3, f4, f5⟩ := HC.out _ HL4.out; clear hq4 hf4)
            | (go_at_call 23; refine (HWH.out _ HQ4.out).mono ?_; rintro e w8 ⟨rfl, hw⟩; replace hw := hw.symm; subst hw))
          go_ret
          exact ⟨by simp, HA.out.trans (HL4.out.mono HA.out.size)⟩
        · go_wp2_with (first
            | (go_at_call 19; refine (HLI.out).mono ?_; rintro e w3 ⟨v3, rfl, hil, hb⟩; obtain ⟨av, cv, rfl⟩ := hil.slice; have HQ3 := veil (HQ.out.below hb); have HL3 := veil (HLq.out.trans (hb.mono HLq.out.size)); obtain ⟨d1, d2, d3, d4, d5⟩ := HC.out _ HL3.out; clear hb hil)
            | (go_at_call 26; refine (HPU.out _ HQ3.out).mono ?_; rintro e w4 ⟨rfl, hq4, hf4⟩; have HQ4 := veil hq4; have HL4 := veil (HL3.out.trans (hf4.below HL3.out.size HO.out)); obtain ⟨f1, f2, f3, f4, f5⟩ := HC.out _ HL4.out; clear hq4 hf4)
            | (go_at_call 23; refine (HWH.out _ HQ4.out).mono ?_; rintro e w8 ⟨rfl, hw⟩; replace hw := hw.symm; subst hw))
          go_ret
          exact ⟨by simp, HA.out.trans (HL4.out.mono HA.out.size)⟩
      · clear HFP HWH
        obtain ⟨lp, hlp⟩ : ∃ lp, decide ((Q : Int) + 1 ≤ (l.length : Int)) = lp := ⟨_, rfl⟩
        go_wp2_with (first
          | (go_at_call 19; refine (HLI.out).mono ?_; rintro e w3 ⟨v3, rfl, hil, hb⟩; obtain ⟨av, cv, rfl⟩ := hil.slice; have HQ3 := veil (HQ.out.below hb); have HL3 := veil (HLq.out.trans (hb.mono HLq.out.size)); obtain ⟨d1, d2, d3, d4, d5⟩ := HC.out _ HL3.out; clear hb hil)
          | (go_at_call 26; refine (HPU.out _ HQ3.out).mono ?_; rintro e w4 ⟨rfl, hq4, hf4⟩; have HL4 := veil (HL3.out.trans (hf4.below HL3.out.size HO.out)); clear hq4 hf4))
        go_ret
        exact ⟨by simp, HA.out.trans (HL4.out.mono HA.out.size)⟩
end Go.Proofs.Ytlfejgjhamcahaa
