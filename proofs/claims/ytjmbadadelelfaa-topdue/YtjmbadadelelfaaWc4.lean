/- The document's wheel: Advance. -/
import Derived.Test.YtjmbadadelelfaaWc3
namespace Go.Proofs.Ytjmbadadelelfaa
open Go.RowKit Go.Lib
set_option linter.unusedVariables false
set_option linter.unusedSimpArgs false
attribute [local go_sem ↓] Go.wp_at_zero Go.wp_at_succ
theorem own_apart {w : World} {b1 b2 : Nat} {e1 e2 : TypeId} {s1 s2 : Nat} {v1 v2 : Value} {n1 n2 : Nat} {xs ys : List Value} (h1 : w.ownsRow b1 e1 s1 v1 n1 xs) (h2 : w.ownsRow b2 e2 s2 v2 n2 ys) (hne : e1 ≠ e2) {k : Nat} (hk : v1.ownBlock = some k) : v2.ownBlock ≠ some k := by
  intro hk2
  rcases h1.2 with ⟨rfl, _⟩ | ⟨g, cap, cur, rfl, _, hg, _⟩
  · cases hk
  · rcases h2.2 with ⟨rfl, _⟩ | ⟨g', cap', cur', rfl, _, hg', _⟩
    · cases hk2
    · simp [Value.ownBlock] at hk hk2
      subst hk hk2
      rw [hg] at hg'
      exact hne (Obj.cells.inj (Option.some.inj hg')).2.1
def lenC (w : World) (rb : Nat) : Nat := match w.cell? ⟨rb, 2, none⟩ with | some (.slice _ n _) => n | _ => 0
theorem lenC_of {w : World} {base rb n nw : Nat} {v : Value} {R : List It} (h : IsR w base rb n nw v R) : lenC w rb = R.length := by
  obtain ⟨a, cap, rfl, _, _⟩ := h.form
  unfold lenC
  rw [h.c2]
section
variable {w : World} {base rb n nw : Nat} {v : Value} {R R1 R2 : List It} {x : It}
/-- What Advance has come to. -/
structure AdvSt (w wr : World) (base rb n to : Nat) (R : List It) (o : Value) (R' : List It) (v' : Value) (Tk : List It) : Prop where
  r : IsR wr base rb n to v' R'
  fr : Fr (fun k => k = rb) w wr
  own : wr.ownsRow w.heap.size 3 1 o Tk.length (iv (spots Tk))
  srt : sortS R = Tk ++ sortS R'
  tk : ∀ y ∈ Tk, y.t ≤ to
  rest : R'.filter (fun y => !decide (y.t ≤ to)) = R.filter (fun y => !decide (y.t ≤ to))
theorem AdvSt.done {wr : World} {to : Nat} {o v' : Value} {R' Tk : List It} (h : AdvSt w wr base rb n to R o R' v' Tk) (hl : ∀ y ∈ R', to < y.t) : (Tk = due to (sortS R)) ∧ R' = late to R := by
  constructor
  · unfold due
    rw [h.srt, List.filter_append, List.filter_eq_self.2 (fun y hy => by have := h.tk y hy; simp; omega), List.filter_eq_nil_iff.2 (fun y hy => by have := hl y (mem_sortS.1 hy); simp; omega), List.append_nil]
  · unfold late
    rw [← h.rest]
    symm
    exact List.filter_eq_self.2 (fun y hy => by have := hl y hy; simp; omega)
set_option maxRecDepth 100000 in
set_option maxHeartbeats 4000000 in
theorem radvance_ok (h : IsR w base rb n nw v R) (to0 : Nat) :
    Calls Try.prog 50 #[.pointer (some ⟨rb, 0, none⟩), .int .u64 (to0 : Int)] w fun e w' => (∃ v', e = .returned v' ∧ w'.ownsRow w.heap.size 3 1 v' (due (max to0 nw) (sortS R)).length (iv (spots (due (max to0 nw) (sortS R))))) ∧ (∃ v', IsR w' base rb n (max to0 nw) v' (late (max to0 nw) R)) ∧ Fr (fun k => k = rb) w w' := by
  obtain ⟨i0, hi0, hz0, hz1, hz2⟩ := info_parts infoInt
  obtain ⟨to, hto⟩ : ∃ to, max to0 nw = to := ⟨_, rfl⟩
  rw [hto]
  have e1 := h.c1
  have hrb := h.lt
  have fz := h.fz
  have hlen0 := h.len_le
  -- the loop, from any world
  have HF0 := veil (fun W v' (h : IsR W base rb n to v' []) => first_none h)
  have HF1 := veil (fun W v' R' (h : IsR W base rb n to v' R') hne => first_ok h hne)
  have HO := veil (fun W v' R1 x R2 (h : IsR W base rb n to v' (R1 ++ x :: R2)) => rout_ok h)
  by_cases hgt : nw < to0
  · have hgt' : (nw : Int) < (to0 : Int) := by omega
    obtain rfl : to0 = to := by omega
    have HS : Hid (AdvSt w (w.setCell ⟨rb, 1, none⟩ (.int .u64 (to0 : Int))) base rb n to0 R (.slice none 0 0) R v []) := ⟨h.setNow to0, Fr.setCell (S := fun k => k = rb) (a := ⟨rb, 1, none⟩) (Fr.refl _ _) rfl _, World.ownsRow_nil _ _ _ _, rfl, by simp, rfl⟩
    clear h hto
    go_enter Try.func50, Try.ntmps50
    go_wp2
    go_loopw [5] (fun o wr => ∃ R' v' Tk, AdvSt w wr base rb n to0 R o R' v' Tk) (fun _ wr => lenC wr rb)
    case atStart => exact ⟨R, v, [], HS.out⟩
    case round =>
      obtain ⟨R', v', Tk, hst⟩ := hrel
      obtain ⟨ao, co, rfl⟩ := own_slice hst.own
      have HST := veil hst
      clear HS
      by_cases hne : R' = []
      · subst hne
        have HF := veil (HF0.out _ _ hst.r)
        have hd := hst.done (by simp)
        have HD := veil hd
        clear hst hd HF1 HO
        go_wp2_with (go_at_call 55; refine (HF.out).mono ?_; rintro e w1 ⟨rfl, hw⟩; replace hw := hw.symm; subst hw)
        go_quiet (fail)
        go_wp2
        go_ret
        refine ⟨⟨_, rfl, ?_⟩, ⟨v', ?_⟩, HST.out.fr.drewN _⟩
        · rw [← HD.out.1]; exact own_below HST.out.own ((Below.refl _ _).drewN _)
        · rw [← HD.out.2]; exact HST.out.r.below ((Below.refl _ _).drewN _)
      · obtain ⟨g, cap, rfl, h1, h2, h3, h4, h5⟩ := hst.r.cells hne
        have HF := veil (HF1.out _ _ _ hst.r hne)
        have hlen := hst.r.len_le
        have hr0 := hst.r.lt
        have HE : Hid (∀ W R1 x R2, R' = R1 ++ x :: R2 → Below wr.heap.size wr W → W.cell? ⟨rb, 2, none⟩ = some (.slice (some ⟨g, 0, none⟩) R'.length cap) ∧ W.cell? ⟨rb, 1, none⟩ = some (.int .u64 (to0 : Int)) ∧ W.cell? ⟨g, R1.length * 2, none⟩ = some (.int .i64 (x.i : Int)) ∧ W.cell? ⟨g, R1.length * 2 + 1, none⟩ = some (.int .u64 (x.t : Int)) ∧ R1.length < R'.length) := fun W R1 x R2 e hb => by
          have hc := h5 R1.length x (by rw [e]; simp)
          exact ⟨(hb.cell (p := ⟨rb, 2, none⟩) hr0).trans hst.r.c2, (hb.cell (p := ⟨rb, 1, none⟩) hr0).trans hst.r.c1, (hb.cell (p := ⟨g, R1.length * 2, none⟩) h3).trans hc.1, (hb.cell (p := ⟨g, R1.length * 2 + 1, none⟩) h3).trans hc.2, by rw [e]; simp⟩
        have hw0 := hst.fr.size
        have HIN : Hid (∀ y ∈ R', y.i < n) := hst.r.good.rng
        have hn24 : n ≤ 1024 := hst.r.nle
        have HTL : Hid (Tk.length + R'.length ≤ 1024) := by
          show _ ≤ 1024
          have := congrArg List.length hst.srt
          rw [List.length_append, sortS_len, sortS_len] at this
          omega
        clear hst h5 HF0
        go_wp2_with (go_at_call 55; refine (HF.out).mono ?_; rintro e w1 ⟨R1, x, R2, ee, q1, q2, rfl, hb⟩; obtain ⟨x1, x2, x3, x4, x5⟩ := HE.out w1 R1 x R2 ee hb; have HB := veil hb; have HEE := veil ee; have HQ1 := veil q1; have HQ2 := veil q2; have hsz1 := hb.size; clear hb ee q1 q2)
        have x5' : (R1.length : Int) < (R'.length : Int) := by omega
        have x6 : ¬ (R1.length : Int) < 0 := by omega
        have x7 : decide ((R1.length : Int) < 0) = false := by simp
        have x8 : (0 : Int) ≤ (R1.length : Int) := by omega
        clear HE HF
        by_cases hxt : x.t ≤ to0
        · have hxt1 : ¬ (to0 : Int) < (x.t : Int) := by omega
          have hxt2 : decide ((to0 : Int) < (x.t : Int)) = false := by simp; omega
          obtain ⟨K, hK⟩ : ∃ K, R1.length = K := ⟨_, rfl⟩
          have HK := veil hK
          rw [hK] at x3 x4 x5 x5' x6 x7 x8 ⊢
          clear hK
          have hxi := HIN.out x (by rw [HEE.out]; simp)
          have htl := HTL.out
          have HAPP : Hid (∀ W3 v2 w2, Below wr.heap.size wr W3 → (W3.alloc (.cells #[.int .i64 (x.i : Int)] 3)).grownBy w2 (Value.ownBlock (.slice ao Tk.length co)) → w2.ownsRow w.heap.size 3 1 v2 (Tk.length + 1) (iv (spots Tk) ++ [.int .i64 (x.i : Int)]) → IsR w2 base rb n to0 (.slice (some ⟨g, 0, none⟩) R'.length cap) (R1 ++ x :: R2) ∧ Fr (fun k => k = rb) w w2) := fun W3 v2 w2 hb hg ho => by
            have hf1 : Fr (fun k => some k = Value.ownBlock (.slice ao Tk.length co)) wr w2 := ((Fr.of_below' hb).alloc _).trans ⟨hg.os, hg.tape, hg.output, hg.size, hg.block⟩
            have hst := HST.out
            refine ⟨?_, ?_⟩
            · rw [← HEE.out]
              refine hst.r.frame hf1 (fun e => ?_) (fun k hk e => own_apart hst.own hst.r.own (by decide) e.symm hk)
              have := (own_ge hst.own e.symm).1
              omega
            · refine ⟨hf1.os.trans hst.fr.os, hf1.tape.trans hst.fr.tape, hf1.output.trans hst.fr.output, Nat.le_trans hst.fr.size hf1.size, fun k hk hne => (hf1.block k (Nat.lt_of_lt_of_le hk hst.fr.size) (fun e => ?_)).trans (hst.fr.block k hk hne)⟩
              have := (own_ge hst.own e.symm).1
              omega
          have HFIN : Hid (∀ w2 w4 v2 v4, Fr (fun k => k = rb) w w2 → w2.ownsRow w.heap.size 3 1 v2 (Tk.length + 1) (iv (spots Tk) ++ [.int .i64 (x.i : Int)]) → IsR w4 base rb n to0 v4 (R1 ++ R2) → Fr (fun k => k = rb) w2 w4 → AdvSt w w4 base rb n to0 R v2 (R1 ++ R2) v4 (Tk ++ [x]) ∧ lenC w4 rb < lenC wr rb) := fun w2 w4 v2 v4 hf2 ho hr4 hf4 => by
            have hst := HST.out
            refine ⟨⟨hr4, hf2.trans hf4, ?_, ?_, ?_, ?_⟩, ?_⟩
            · rw [List.length_append, spots_append, iv_append]
              have e : iv (spots [x]) = [.int .i64 (x.i : Int)] := by unfold iv spots; simp
              rw [e]
              exact own_kept ho (fun k hk => hf4.block k (own_ge ho hk).2 (fun e => by have := (own_ge ho hk).1; omega))
            · rw [hst.srt, HEE.out, sortS_first HQ1.out R2 HQ2.out]
              simp
            · intro y hy
              rcases List.mem_append.1 hy with q | q
              · exact hst.tk y q
              · simp at q; rw [q]; exact hxt
            · rw [← hst.rest, HEE.out, List.filter_append, List.filter_append, List.filter_cons]
              simp [hxt]
            · rw [lenC_of hr4, lenC_of hst.r, HEE.out]
              simp
          go_quiet (fail)
          have hb3 := HB.out.drewN nq
          have x1d : (w1.drewN nq).cell? ⟨rb, 2, none⟩ = some (.slice (some ⟨g, 0, none⟩) R'.length cap) := x1
          have x3d : (w1.drewN nq).cell? ⟨g, K * 2, none⟩ = some (.int .i64 (x.i : Int)) := x3
          clear x1 x2 x3 x4
          generalize w1.drewN nq = W3 at *
          have hsz3 := hb3.size
          have hr3 : rb < W3.heap.size := by omega
          have hg3 : g < W3.heap.size := by omega
          have HB3 := veil hb3
          clear hb3 HB
          go_wp2_with (first
            | (at_builtin; refine wpList_append_own _ rfl _ _ 33 rfl w.heap.size 3 i0 (.int .i64 0) 1 8 Try.underlying33 hi0 hz0 hz1 hz2 rfl (by decide) (.slice ao Tk.length co) Tk.length (iv (spots Tk)) rfl (by exact (own_below HST.out.own HB3.out).alloc _) ⟨W3.heap.size, 0, none⟩ 1 1 [.int .i64 (x.i : Int)] rfl rfl (cell_one _ _ _) (by simp [Value.oneCell']) (by unfold maxLen; omega) (by omega) (by simp; omega) ?_; intro v2 w2 hown' hgrow _; obtain ⟨hr2, hf2⟩ := HAPP.out _ _ _ HB3.out hgrow hown'; obtain ⟨a2, c2, rfl⟩ := own_slice hown'; have HOW := veil hown'; have HR2 := veil hr2; have HF2 := veil hf2; clear hown' hgrow hr2 hf2)
            | (go_at_call 59; rw [← HK.out]; refine (HO.out _ _ _ _ _ HR2.out).mono ?_; rintro e w4 ⟨rfl, ⟨v4, hr4⟩, hf4⟩; have HX := veil (HFIN.out _ _ _ _ HF2.out HOW.out hr4 hf4); clear hr4 hf4))
          go_roundw
          case rel => exact ⟨R1 ++ R2, v4, Tk ++ [x], HX.out.1⟩
          case measure => exact HX.out.2
        · have hxt1 : (to0 : Int) < (x.t : Int) := by omega
          have hxt2 : decide ((to0 : Int) < (x.t : Int)) = true := by simp; omega
          have hd := HST.out.done (fun y hy => by
            rw [HEE.out] at hy
            rcases List.mem_append.1 hy with q | q
            · have := HQ1.out y q; omega
            · rcases List.mem_cons.1 q with rfl | q
              · omega
              · have := HQ2.out y q; omega)
          have HD := veil hd
          clear hd
          obtain ⟨K, hK⟩ : ∃ K, R1.length = K := ⟨_, rfl⟩
          rw [hK] at x3 x4 x5 x5' x6 x7 x8 ⊢
          clear hK
          go_quiet (fail)
          go_wp2
          go_ret
          refine ⟨⟨_, rfl, ?_⟩, ⟨.slice (some ⟨g, 0, none⟩) R'.length cap, ?_⟩, ((HST.out.fr).trans (Fr.of_below' HB.out)).drewN _⟩
          · rw [← HD.out.1]; exact own_below HST.out.own (HB.out.drewN _)
          · rw [← HD.out.2]; exact HST.out.r.below (HB.out.drewN _)
  · have hgt' : ¬ (nw : Int) < (to0 : Int) := by omega
    obtain rfl : nw = to := by omega
    have HS : Hid (AdvSt w w base rb n nw R (.slice none 0 0) R v []) := ⟨h, Fr.refl _ _, World.ownsRow_nil _ _ _ _, rfl, by simp, rfl⟩
    clear h hto
    go_enter Try.func50, Try.ntmps50
    go_wp2
    go_loopw [5] (fun o wr => ∃ R' v' Tk, AdvSt w wr base rb n nw R o R' v' Tk) (fun _ wr => lenC wr rb)
    case atStart => exact ⟨R, v, [], HS.out⟩
    case round =>
      obtain ⟨R', v', Tk, hst⟩ := hrel
      obtain ⟨ao, co, rfl⟩ := own_slice hst.own
      have HST := veil hst
      clear HS
      by_cases hne : R' = []
      · subst hne
        have HF := veil (HF0.out _ _ hst.r)
        have hd := hst.done (by simp)
        have HD := veil hd
        clear hst hd HF1 HO
        go_wp2_with (go_at_call 55; refine (HF.out).mono ?_; rintro e w1 ⟨rfl, hw⟩; replace hw := hw.symm; subst hw)
        go_quiet (fail)
        go_wp2
        go_ret
        refine ⟨⟨_, rfl, ?_⟩, ⟨v', ?_⟩, HST.out.fr.drewN _⟩
        · rw [← HD.out.1]; exact own_below HST.out.own ((Below.refl _ _).drewN _)
        · rw [← HD.out.2]; exact HST.out.r.below ((Below.refl _ _).drewN _)
      · obtain ⟨g, cap, rfl, h1, h2, h3, h4, h5⟩ := hst.r.cells hne
        have HF := veil (HF1.out _ _ _ hst.r hne)
        have hlen := hst.r.len_le
        have hr0 := hst.r.lt
        have HE : Hid (∀ W R1 x R2, R' = R1 ++ x :: R2 → Below wr.heap.size wr W → W.cell? ⟨rb, 2, none⟩ = some (.slice (some ⟨g, 0, none⟩) R'.length cap) ∧ W.cell? ⟨rb, 1, none⟩ = some (.int .u64 (nw : Int)) ∧ W.cell? ⟨g, R1.length * 2, none⟩ = some (.int .i64 (x.i : Int)) ∧ W.cell? ⟨g, R1.length * 2 + 1, none⟩ = some (.int .u64 (x.t : Int)) ∧ R1.length < R'.length) := fun W R1 x R2 e hb => by
          have hc := h5 R1.length x (by rw [e]; simp)
          exact ⟨(hb.cell (p := ⟨rb, 2, none⟩) hr0).trans hst.r.c2, (hb.cell (p := ⟨rb, 1, none⟩) hr0).trans hst.r.c1, (hb.cell (p := ⟨g, R1.length * 2, none⟩) h3).trans hc.1, (hb.cell (p := ⟨g, R1.length * 2 + 1, none⟩) h3).trans hc.2, by rw [e]; simp⟩
        have hw0 := hst.fr.size
        have HIN : Hid (∀ y ∈ R', y.i < n) := hst.r.good.rng
        have hn24 : n ≤ 1024 := hst.r.nle
        have HTL : Hid (Tk.length + R'.length ≤ 1024) := by
          show _ ≤ 1024
          have := congrArg List.length hst.srt
          rw [List.length_append, sortS_len, sortS_len] at this
          omega
        clear hst h5 HF0
        go_wp2_with (go_at_call 55; refine (HF.out).mono ?_; rintro e w1 ⟨R1, x, R2, ee, q1, q2, rfl, hb⟩; obtain ⟨x1, x2, x3, x4, x5⟩ := HE.out w1 R1 x R2 ee hb; have HB := veil hb; have HEE := veil ee; have HQ1 := veil q1; have HQ2 := veil q2; have hsz1 := hb.size; clear hb ee q1 q2)
        have x5' : (R1.length : Int) < (R'.length : Int) := by omega
        have x6 : ¬ (R1.length : Int) < 0 := by omega
        have x7 : decide ((R1.length : Int) < 0) = false := by simp
        have x8 : (0 : Int) ≤ (R1.length : Int) := by omega
        clear HE HF
        by_cases hxt : x.t ≤ nw
        · have hxt1 : ¬ (nw : Int) < (x.t : Int) := by omega
          have hxt2 : decide ((nw : Int) < (x.t : Int)) = false := by simp; omega
          obtain ⟨K, hK⟩ : ∃ K, R1.length = K := ⟨_, rfl⟩
          have HK := veil hK
          rw [hK] at x3 x4 x5 x5' x6 x7 x8 ⊢
          clear hK
          have hxi := HIN.out x (by rw [HEE.out]; simp)
          have htl := HTL.out
          have HAPP : Hid (∀ W3 v2 w2, Below wr.heap.size wr W3 → (W3.alloc (.cells #[.int .i64 (x.i : Int)] 3)).grownBy w2 (Value.ownBlock (.slice ao Tk.length co)) → w2.ownsRow w.heap.size 3 1 v2 (Tk.length + 1) (iv (spots Tk) ++ [.int .i64 (x.i : Int)]) → IsR w2 base rb n nw (.slice (some ⟨g, 0, none⟩) R'.length cap) (R1 ++ x :: R2) ∧ Fr (fun k => k = rb) w w2) := fun W3 v2 w2 hb hg ho => by
            have hf1 : Fr (fun k => some k = Value.ownBlock (.slice ao Tk.length co)) wr w2 := ((Fr.of_below' hb).alloc _).trans ⟨hg.os, hg.tape, hg.output, hg.size, hg.block⟩
            have hst := HST.out
            refine ⟨?_, ?_⟩
            · rw [← HEE.out]
              refine hst.r.frame hf1 (fun e => ?_) (fun k hk e => own_apart hst.own hst.r.own (by decide) e.symm hk)
              have := (own_ge hst.own e.symm).1
              omega
            · refine ⟨hf1.os.trans hst.fr.os, hf1.tape.trans hst.fr.tape, hf1.output.trans hst.fr.output, Nat.le_trans hst.fr.size hf1.size, fun k hk hne => (hf1.block k (Nat.lt_of_lt_of_le hk hst.fr.size) (fun e => ?_)).trans (hst.fr.block k hk hne)⟩
              have := (own_ge hst.own e.symm).1
              omega
          have HFIN : Hid (∀ w2 w4 v2 v4, Fr (fun k => k = rb) w w2 → w2.ownsRow w.heap.size 3 1 v2 (Tk.length + 1) (iv (spots Tk) ++ [.int .i64 (x.i : Int)]) → IsR w4 base rb n nw v4 (R1 ++ R2) → Fr (fun k => k = rb) w2 w4 → AdvSt w w4 base rb n nw R v2 (R1 ++ R2) v4 (Tk ++ [x]) ∧ lenC w4 rb < lenC wr rb) := fun w2 w4 v2 v4 hf2 ho hr4 hf4 => by
            have hst := HST.out
            refine ⟨⟨hr4, hf2.trans hf4, ?_, ?_, ?_, ?_⟩, ?_⟩
            · rw [List.length_append, spots_append, iv_append]
              have e : iv (spots [x]) = [.int .i64 (x.i : Int)] := by unfold iv spots; simp
              rw [e]
              exact own_kept ho (fun k hk => hf4.block k (own_ge ho hk).2 (fun e => by have := (own_ge ho hk).1; omega))
            · rw [hst.srt, HEE.out, sortS_first HQ1.out R2 HQ2.out]
              simp
            · intro y hy
              rcases List.mem_append.1 hy with q | q
              · exact hst.tk y q
              · simp at q; rw [q]; exact hxt
            · rw [← hst.rest, HEE.out, List.filter_append, List.filter_append, List.filter_cons]
              simp [hxt]
            · rw [lenC_of hr4, lenC_of hst.r, HEE.out]
              simp
          go_quiet (fail)
          have hb3 := HB.out.drewN nq
          have x1d : (w1.drewN nq).cell? ⟨rb, 2, none⟩ = some (.slice (some ⟨g, 0, none⟩) R'.length cap) := x1
          have x3d : (w1.drewN nq).cell? ⟨g, K * 2, none⟩ = some (.int .i64 (x.i : Int)) := x3
          clear x1 x2 x3 x4
          generalize w1.drewN nq = W3 at *
          have hsz3 := hb3.size
          have hr3 : rb < W3.heap.size := by omega
          have hg3 : g < W3.heap.size := by omega
          have HB3 := veil hb3
          clear hb3 HB
          go_wp2_with (first
            | (at_builtin; refine wpList_append_own _ rfl _ _ 33 rfl w.heap.size 3 i0 (.int .i64 0) 1 8 Try.underlying33 hi0 hz0 hz1 hz2 rfl (by decide) (.slice ao Tk.length co) Tk.length (iv (spots Tk)) rfl (by exact (own_below HST.out.own HB3.out).alloc _) ⟨W3.heap.size, 0, none⟩ 1 1 [.int .i64 (x.i : Int)] rfl rfl (cell_one _ _ _) (by simp [Value.oneCell']) (by unfold maxLen; omega) (by omega) (by simp; omega) ?_; intro v2 w2 hown' hgrow _; obtain ⟨hr2, hf2⟩ := HAPP.out _ _ _ HB3.out hgrow hown'; obtain ⟨a2, c2, rfl⟩ := own_slice hown'; have HOW := veil hown'; have HR2 := veil hr2; have HF2 := veil hf2; clear hown' hgrow hr2 hf2)
            | (go_at_call 59; rw [← HK.out]; refine (HO.out _ _ _ _ _ HR2.out).mono ?_; rintro e w4 ⟨rfl, ⟨v4, hr4⟩, hf4⟩; have HX := veil (HFIN.out _ _ _ _ HF2.out HOW.out hr4 hf4); clear hr4 hf4))
          go_roundw
          case rel => exact ⟨R1 ++ R2, v4, Tk ++ [x], HX.out.1⟩
          case measure => exact HX.out.2
        · have hxt1 : (nw : Int) < (x.t : Int) := by omega
          have hxt2 : decide ((nw : Int) < (x.t : Int)) = true := by simp; omega
          have hd := HST.out.done (fun y hy => by
            rw [HEE.out] at hy
            rcases List.mem_append.1 hy with q | q
            · have := HQ1.out y q; omega
            · rcases List.mem_cons.1 q with rfl | q
              · omega
              · have := HQ2.out y q; omega)
          have HD := veil hd
          clear hd
          obtain ⟨K, hK⟩ : ∃ K, R1.length = K := ⟨_, rfl⟩
          rw [hK] at x3 x4 x5 x5' x6 x7 x8 ⊢
          clear hK
          go_quiet (fail)
          go_wp2
          go_ret
          refine ⟨⟨_, rfl, ?_⟩, ⟨.slice (some ⟨g, 0, none⟩) R'.length cap, ?_⟩, ((HST.out.fr).trans (Fr.of_below' HB.out)).drewN _⟩
          · rw [← HD.out.1]; exact own_below HST.out.own (HB.out.drewN _)
          · rw [← HD.out.2]; exact HST.out.r.below (HB.out.drewN _)
end
end Go.Proofs.Ytjmbadadelelfaa
