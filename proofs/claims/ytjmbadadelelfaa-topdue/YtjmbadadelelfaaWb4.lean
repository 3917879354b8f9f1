/- The walk of fetch. -/
import Derived.Test.YtjmbadadelelfaaWb3
namespace Go.Proofs.Ytjmbadadelelfaa
open Go.RowKit
set_option linter.unusedVariables false
set_option linter.unusedSimpArgs false
attribute [local go_sem ↓] Go.wp_at_zero Go.wp_at_succ
theorem same_u64 (x y : Int) : (Lit.int .u64 x).sameKey (.int .u64 y) = decide (x = y) := by
  rw [Bool.eq_iff_iff, WideAt.sameKey_iff (lit_key y)]
  simp
/-- A step of a range over the map. -/
theorem wpList_next_m (w : World) {ops : Array Oper} {rest : List Oper} {o : Oper} {a : Act} {Q : Exit → Act → World → Prop} (hg : o.guard = none) (it : Operand) (hop : o.op = Op.next it false) (mb r s : Nat) (D : DataW Unit) (left : Lit → Bool) (cnt : Nat)
    (hit : a.eval it = .pointer (some ⟨r, 0, none⟩)) (h : w.ranges Try.prog 30 RL mb r s D left cnt)
    (hDone : cnt = 0 → (∀ kl, left kl = false) → wpList Try.prog ops Q rest (a.put o.dst (.tuple #[.bool false])) w)
    (hMore : ∀ (k : Nat) (f l : Int) (w' : World) (cnt' : Nat), k < 18446744073709551616 → left (.int .u64 (k : Int)) = true → Maps.has D (.int .u64 (k : Int)) = true → w'.ranges Try.prog 30 RL mb r s D (fun z => left z && !z.sameKey (.int .u64 (k : Int))) cnt' → cnt' < cnt →
      w.grownBy w' (some r) → w'.heap.size = w.heap.size → (Instr.entry (.pointer (some ⟨r, 0, none⟩))).run Try.prog w' = .ok (.tuple #[.int .u64 (k : Int), .agg #[.int .i64 f, .int .i64 l]]) w' → wpList Try.prog ops Q rest (a.put o.dst (.tuple #[.bool true, .int .u64 (k : Int), .agg #[.int .i64 f, .int .i64 l]])) w') :
    wpList Try.prog ops Q (o :: rest) a w := by
  refine wpList_next_ranges w hg it hop 30 keyU RL (Value.int .u64) (fun c : Int × Int => .agg #[.int .i64 c.1, .int .i64 c.2]) (fun key kl hk => by obtain ⟨x, hx, _⟩ := Maps.keyOf_int_inv Try.underlying30 hk; exact ⟨x, hx⟩) (fun v y hv => by obtain ⟨a, c, rfl, _⟩ := RL_inv hv; exact ⟨(a, c), rfl⟩) mb r s D left cnt hit h hDone ?_
  intro x c kl y w' cnt' hkey hlk hv hat hrg hlt hgr hsz hen
  obtain ⟨x', ex, rfl, hwx⟩ := Maps.keyOf_int_inv Try.underlying30 hkey
  cases ex
  have hb : 0 ≤ x ∧ x < 18446744073709551616 := by
    simp [Lit.wf, IntKind.min, IntKind.max, IntKind.bits, IntKind.signed] at hwx
    omega
  obtain ⟨k, rfl⟩ := Int.eq_ofNat_of_zero_le hb.1
  exact hMore k c.1 c.2 w' cnt' (by omega) hlk (Maps.has_true_of_atKey hat) hrg hlt hgr hsz hen
section
variable {w : World} {b g mb n nw ct s : Nat} {F L A B E F0 L0 : Nat → Nat} {T : Nat → Bool} {fr : Int → Option (Nat × Nat)} {S : List It}
/-- The times that are fetched. -/
def met (fr : Int → Option (Nat × Nat)) (to k : Nat) : Prop := (fr (k : Int)).isSome = true ∧ k / 64 ≤ to / 64
theorem met_len (hi : Inv n nw ct F L fr A B E T S) {to : Nat} (ts : List Nat) (hn : ts.Nodup) (hm : ∀ k ∈ ts, met fr to k) : ts.length ≤ S.length := by
  have := len_le_of_sub (l := ts.map (fun (k : Nat) => (k : Int))) (m := S.map (fun x => (ky nw x : Int))) (by
    rw [List.Nodup, List.pairwise_map] at *
    exact hn.imp (fun {a c} hne e => hne (by omega))) (fun x hx => by
      obtain ⟨k, hk, rfl⟩ := List.mem_map.1 hx
      obtain ⟨h1, _⟩ := hm k hk
      obtain ⟨k', e, hk'⟩ := hi.out _ h1
      obtain rfl : k = k' := by omega
      rcases hi.far k hk' with ⟨e, _⟩ | ⟨f, l, _, e, _⟩
      · rw [e] at h1; cases h1
      · obtain ⟨y, hy⟩ := List.exists_mem_of_ne_nil _ e
        obtain ⟨h3, h4⟩ := mem_grp.1 hy
        exact List.mem_map.2 ⟨y, h3, by rw [h4]⟩)
  simpa using this
theorem lsD_srt {D : Nat → Nat} {N j : Nat} (h : ∀ a c, a < c → c < N → D a < D c) (hj : j ≤ N) : (lsD D j).Pairwise (· < ·) := by
  rw [List.pairwise_iff_getElem]
  intro a c ha hc hac
  simp [lsD] at ha hc ⊢
  exact h a c hac (by omega)
theorem dueL_len (hs : Srt S) {to : Nat} {ls : List Nat} (h : ls.Pairwise (· < ·)) : (dueL to nw S ls).length ≤ S.length := by
  unfold dueL
  rw [many_eq hs nw _ (h.filter _)]
  exact List.length_filter_le _ _
set_option maxRecDepth 100000 in
set_option maxHeartbeats 4000000 in
theorem fetch_ok (h : Rep w b g n nw ct (.map (some mb)) F0 L0 A B E T) (hF0 : F0 = fun _ => 0) (hL0 : L0 = fun _ => 0) (hm : IsM w mb fr s) (hi : Inv n nw ct F L fr A B E T S) (hbm : b ≠ mb) (hgm : g ≠ mb) (hn : n ≤ 1024) (m : Nat) (hS : Sorts m) (hnm : n ≤ m)
    (to : Nat) (ht : to < 18446744073709551616) (hto : nw / 64 < to / 64) :
    Calls Try.prog 42 #[.pointer (some ⟨b, 0, none⟩), .int .u64 (to : Int)] w fun e w' => ∃ ls : List Nat, ls.Pairwise (· < ·) ∧ (∀ k, k ∈ ls ↔ met fr to k) ∧ (∃ v, e = .returned v ∧ w'.ownsRow w.heap.size 3 1 v (dueL to nw S ls).length (iv (spots (dueL to nw S ls)))) ∧
      Rep w' b g n nw ct (.map (some mb)) (ffF to fr ls) (ffL to fr ls) A B E T ∧ (∃ s', IsM w' mb (frL fr ls) s') ∧ Fr (O3 b g mb) w w' := by
  obtain ⟨i0, hii, hz0, hz1, hz2⟩ := info_parts infoU64
  have HM0 := veil hm
  obtain ⟨D, hD, hD1, hD2, hD3⟩ := hm
  have e0 := h.tm
  have hbb := h.lt_b
  have hgg := h.lt_g
  have hmlt := hD.lt
  have HD := veil hD
  have HD1 := veil hD1
  have HR := veil h
  have HI := veil hi
  have HT1 := veil (fun x hx => turn_ok x hx)
  have HT2 := veil (turn_ok to ht)
  clear h hi hD hD1
  go_enter Try.func42, Try.ntmps42
  go_wp2_with (first | (at_range; refine wpList_range_own _ rfl _ 71 rfl 30 69 keyU Try.underlying71 RL mb s D rfl HD.out ?_; intro w0 hrg0 hg0 hs0; have HRG := veil hrg0; have HG0 := veil hg0; clear hrg0 hg0))
  go_frame
  go_loopw [5] (fun v wr => ∃ (ts : List Nat) (left : Lit → Bool) (cnt : Nat), wr.ranges Try.prog 30 RL mb w.heap.size s D left cnt ∧ Below w.heap.size w wr ∧ wr.ownsRow w.heap.size 30 1 v ts.length (uv ts) ∧ ts.Nodup ∧ (∀ k : Nat, k ∈ ts ↔ (met fr to k ∧ left (.int .u64 (k : Int)) = false))) (fun _ wr => wr.rangeLeft mb w.heap.size)
  case atStart =>
    refine ⟨[], _, _, HRG.out, ⟨HG0.out.os, HG0.out.tape, HG0.out.output, HG0.out.size, fun k hk => HG0.out.block k hk (by simp)⟩, World.ownsRow_nil _ _ _ _, List.nodup_nil, fun k => ⟨fun q => absurd q (by simp), fun q => ?_⟩⟩
    obtain ⟨⟨q1, _⟩, q2⟩ := q
    rw [HD1.out, q1] at q2
    cases q2
  case round =>
    obtain ⟨ts, left, cnt, hrg, hbel, hown, hnd, hmem⟩ := hrel
    obtain ⟨av, cv, rfl⟩ := own_slice hown
    have HRGr := veil hrg
    have HB := veil hbel
    have HO := veil hown
    have HND := veil hnd
    have HMEM := veil hmem
    have hsz := hbel.size
    have hrlt := hrg.lt
    clear hrg hbel hown hnd hmem HRG HG0 HD
    go_wp2_with (first | (at_next; refine wpList_next_m _ rfl _ rfl mb w.heap.size s D left cnt rfl HRGr.out ?_ ?_))
    · intro hc0 hl0
      have hmet : ∀ k, k ∈ ts ↔ met fr to k := fun k => by rw [HMEM.out k]; exact ⟨fun q => q.1, fun q => ⟨q, hl0 _⟩⟩
      have hlenS : ts.length ≤ n := Nat.le_trans (met_len HI.out (to := to) ts HND.out (fun k hk => (hmet k).1 hk)) HI.out.len_le
      obtain ⟨N, hN⟩ : ∃ N, ts.length = N := ⟨_, rfl⟩
      have HSORT : Hid (Calls Try.prog 58 #[.slice av N cv] wr fun e w' => e = .returned (.tuple #[]) ∧ ∃ D', (N = 0 ∨ ∃ r2, av = some ⟨r2, 0, none⟩ ∧ w.heap.size ≤ r2 ∧ RowU w' r2 cv N D') ∧ (∀ k, k ∈ lsD D' N ↔ met fr to k) ∧ (∀ a c, a < c → c < N → D' a < D' c) ∧ Below w.heap.size w w') := by
        have ho := HO.out
        rw [hN] at ho
        rcases ho.2 with ⟨hnil, h0⟩ | ⟨r2, cap', cur', hv', _⟩
        · cases hnil
          refine (sort_nil wr).mono ?_
          rintro e w' ⟨rfl, rfl⟩
          refine ⟨rfl, fun _ => 0, .inl rfl, fun k => ?_, fun a c _ hc => by omega, HB.out⟩
          rw [← hmet k, List.length_eq_zero_iff.1 hN]
          exact Iff.rfl
        · cases hv'
          obtain ⟨hrow, _, hge⟩ := rowU_of ho
          have hinj : ∀ a c, a < N → c < N → ts.getD a 0 = ts.getD c 0 → a = c := fun a c ha hc e => by
            have hnd := HND.out
            simp only [List.getD, List.getElem?_eq_getElem (show a < ts.length by omega), List.getElem?_eq_getElem (show c < ts.length by omega), Option.getD_some] at e
            have hp := List.pairwise_iff_getElem.1 hnd
            rcases Nat.lt_trichotomy a c with q | q | q
            · exact absurd e (hp a c _ _ q)
            · exact q
            · exact absurd e.symm (hp c a _ _ q)
          refine (hS wr r2 cv N (fun j => ts.getD j 0) hrow (by omega) hinj).mono ?_
          rintro e w' ⟨rfl, D', hr', hm', hs', hf'⟩
          refine ⟨rfl, D', .inr ⟨r2, rfl, hge, hr'⟩, fun k => ?_, hs', ?_⟩
          · rw [mem_lsD, hm' k, ← hmet k]
            constructor
            · rintro ⟨a, ha, rfl⟩
              simp only [List.getD, List.getElem?_eq_getElem (show a < ts.length by omega), Option.getD_some]
              exact List.getElem_mem _
            · intro hk
              obtain ⟨a, ha, e⟩ := List.mem_iff_getElem.1 hk
              exact ⟨a, by omega, by simp [List.getD, List.getElem?_eq_getElem ha, e]⟩
          · exact ⟨hf'.os.trans HB.out.os, hf'.tape.trans HB.out.tape, hf'.output.trans HB.out.output, Nat.le_trans HB.out.size hf'.size, fun k hk => (hf'.block k (by have := HB.out.size; omega) (by omega)).trans (HB.out.block k hk)⟩
      have HNb : Hid (N ≤ n) := by show N ≤ n; omega
      rw [hN]
      clear HO HND HMEM HT1 HT2 hmet hlenS hc0 hl0 hN HRGr hS hrlt hsz
      clear e0 hz0 hz1 hz2 hii
      go_wp2_with (first
        | (go_at_call 58; refine (HSORT.out).mono ?_; rintro e w3 ⟨rfl, D', hrow, hmm, hss, hb3⟩; have HROW := veil hrow; have HMM := veil hmm; have HSS := veil hss; have HB3 := veil hb3; clear hrow hmm hss hb3))
      have HSTART : Hid (Rep w3 b g n nw ct (.map (some mb)) (ffF to fr (lsD D' 0)) (ffL to fr (lsD D' 0)) A B E T ∧ (∃ s', IsM w3 mb (frL fr (lsD D' 0)) s')) := by
        have hr3 := HR.out.below HB3.out
        have e1 : ffF to fr (lsD D' 0) = fun _ => 0 := by funext q; unfold ffF; exact if_neg (fun q => by simp [lsD] at q)
        have e2 : ffL to fr (lsD D' 0) = fun _ => 0 := by funext q; unfold ffL; exact if_neg (fun q => by simp [lsD] at q)
        have e3 : frL fr (lsD D' 0) = fr := by funext q; unfold frL; exact if_neg (fun q => by simp [lsD] at q)
        rw [e1, e2, e3]
        subst hF0 hL0
        exact ⟨hr3, s, HM0.out.block (HB3.out.block mb hmlt)⟩
      clear HR HM0 HB HSORT
      go_loopw [7, 32] (fun v iv_ wr => ∃ j : Nat, j ≤ N ∧ iv_ = .int .i64 (j : Int) ∧ Rep wr b g n nw ct (.map (some mb)) (ffF to fr (lsD D' j)) (ffL to fr (lsD D' j)) A B E T ∧ (∃ s', IsM wr mb (frL fr (lsD D' j)) s') ∧ Fr (fun k => k = b ∨ k = mb) w3 wr ∧ wr.ownsRow w3.heap.size 3 1 v (dueL to nw S (lsD D' j)).length (iv (spots (dueL to nw S (lsD D' j))))) (fun _ i _ => N - (intOf i).toNat)
      case atStart => exact ⟨0, by omega, rfl, HSTART.out.1, HSTART.out.2, Fr.refl _ _, World.ownsRow_nil _ _ _ _⟩
      case round =>
        obtain ⟨j, hj, rfl, hrep, ⟨s2, hm2⟩, hfr, hown⟩ := hrel
        obtain ⟨av2, cv2, rfl⟩ := own_slice hown
        clear HSTART
        have hbb2 := hrep.lt_b
        have hsz3 := HB3.out.size
        have hszr := hfr.size
        by_cases hjN : j < N
        · obtain ⟨t, ht'⟩ : ∃ t, D' j = t := ⟨_, rfl⟩
          have hmt : met fr to t := (HMM.out t).1 (mem_lsD.2 ⟨j, hjN, ht'⟩)
          have htn : t ∉ lsD D' j := fun q => by
            obtain ⟨a, ha, e⟩ := mem_lsD.1 q
            have := HSS.out a j ha hjN
            omega
          obtain ⟨k', ek, hk'⟩ := HI.out.out _ hmt.1
          obtain rfl : t = k' := by omega
          have hle64 := hmt.2
          obtain ⟨f, l, hfl, hgne, hLst⟩ : ∃ f l, fr (t : Int) = some (f, l) ∧ grp nw S t ≠ [] ∧ Lst A B f l (spots (grp nw S t)) := by
            rcases HI.out.far t hk' with ⟨e, _⟩ | q
            · have := hmt.1; rw [e] at this; cases this
            · exact q
          have ht64 : t < 18446744073709551616 := by
            obtain ⟨y, hy⟩ := List.exists_mem_of_ne_nil _ hgne
            obtain ⟨h1, h2⟩ := mem_grp.1 hy
            have h3 := HI.out.tm y h1
            have h4 := HI.out.hw
            unfold ky at h2
            omega
          have hglen : (grp nw S t).length ≤ 1024 := by
            have h1 : (grp nw S t).length ≤ S.length := List.length_filter_le _ _
            have h2 := HI.out.len_le
            omega
          have HId : Hid (∀ W, Rep W b g n nw ct (.map (some mb)) (ffF to fr (lsD D' j)) (ffL to fr (lsD D' j)) A B E T → Calls Try.prog 57 #[.pointer (some ⟨b, 0, none⟩), .agg #[.int .i64 (f : Int), .int .i64 (l : Int)]] W fun e w' => (∃ v, e = .returned v ∧ w'.ownsRow W.heap.size 3 1 v (grp nw S t).length (iv (spots (grp nw S t)))) ∧ Below W.heap.size W w') := fun W hW => by
            have q := ids_ok hW hLst (fun p hp => by
              obtain ⟨y, hy, rfl⟩ := mem_spots.1 hp
              have := HI.out.lt y (mem_grp.1 hy).1
              omega) (spots_nd (nd_sub HI.out.nd)) hn (by rw [spots_len]; exact hglen)
            rwa [spots_len] at q
          have hdl : (dueL to nw S (lsD D' j)).length ≤ 1024 := by
            have h1 := dueL_len (nw := nw) (to := to) HI.out.srt (lsD_srt HSS.out hj)
            have h2 := HI.out.len_le
            omega
          obtain ⟨r2, rfl, hr2ge, hr2⟩ := HROW.out.resolve_left (by omega)
          have hr2lt := hr2.lt
          have hrj := (hr2.kept (W' := wr) (hfr.block r2 hr2lt (by omega))).cell j hjN
          rw [ht'] at hrj
          have hfat : frL fr (lsD D' j) (t : Int) = some (f, l) := by rw [frL_at htn]; exact hfl
          have htm := hrep.tm
          have hwf := u64wf t ht64
          have hNb := HNb.out
          have hjN' : (j : Int) < (N : Int) := by omega
          have HRep := veil hrep
          have HM2 := veil hm2
          have HFr := veil hfr
          have HO := veil hown
          have hEQ : lsD D' (j + 1) = lsD D' j ++ [t] := by rw [lsD_succ, ht']
          by_cases htt : t ≤ to
          · have htt' : (t : Int) ≤ (to : Int) := by omega
            have hlk := hm2.look (t : Int) hwf
            rw [hfat] at hlk
            have hlk' : (Instr.lookup 71 (.map (some mb)) (.int .u64 (t : Int)) false).run Try.prog wr = .ok (.agg #[.int .i64 (f : Int), .int .i64 (l : Int)]) wr := hlk
            have HX1 : Hid (ffF to fr (lsD D' (j + 1)) = ffF to fr (lsD D' j) ∧ ffL to fr (lsD D' (j + 1)) = ffL to fr (lsD D' j) ∧ frL fr (lsD D' (j + 1)) = setF (frL fr (lsD D' j)) (t : Int) none ∧ dueL to nw S (lsD D' (j + 1)) = dueL to nw S (lsD D' j) ++ grp nw S t) := by
              show _ ∧ _
              rw [hEQ]
              exact ⟨ffF_low htt, ffL_low htt, frL_more, dueL_low htt⟩
            generalize dueL to nw S (lsD D' j) = U at *
            generalize grp nw S t = G at *
            clear hmt htn ek hk' hfl hgne hLst hrep hm2 hfr hown hlk hEQ hfat ht' HMM HSS HROW HI HNb
            go_wp2_with (first
              | (go_at_call 57; refine (HId.out _ HRep.out).mono ?_; rintro e w5 ⟨⟨v5, rfl, ho5⟩, hb5⟩; obtain ⟨a5, c5, rfl⟩ := own_slice ho5; have HO5 := veil ho5; have HV5 := veil (own_below HO.out hb5); have HB5 := veil hb5; have hs5 := hb5.size; clear ho5 hb5)
              | (at_builtin; refine wpList_append_rows _ rfl _ _ rfl w3.heap.size _ _ _ _ _ _ _ rfl HV5.out rfl HO5.out (iv_one _) (by omega) (by omega) ?_; intro v' w6 hown' hgrow; obtain ⟨a6, c6, rfl⟩ := own_slice hown'; have hf6 : Fr (fun k => w3.heap.size ≤ k) w5 w6 := ⟨hgrow.os, hgrow.tape, hgrow.output, hgrow.size, fun k hk hn => hgrow.block k hk (fun e => hn (own_ge HO.out e.symm).1)⟩; have hf7 : Fr (fun k => w3.heap.size ≤ k) wr w6 := (Fr.of_below' HB5.out).trans hf6; have HO6 := veil hown'; have HF7 := veil hf7; have hr6 := (HRep.out.below HB5.out).kept (hf6.block b (by omega) (by omega)) (hf6.block g (by omega) (by omega)); have HR6 := veil hr6; have HM6 := veil ((HM2.out.block (HB5.out.block mb (by omega))).block (hf6.block mb (by omega) (by omega))); have htm6 := hr6.tm; have hs6 := hgrow.size; clear hown' hgrow hf6 hf7 hr6)
              | (at_delete; refine wpList_delete_m rfl _ _ rfl (by exact HM6.out) (t : Int) hwf rfl rfl ?_; intro w7 hm7 hg7; have HM7 := veil hm7; have HG7 := veil hg7; clear hm7 hg7))
            go_roundw
            case rel =>
              obtain ⟨x1, x2, x3, x4⟩ := HX1.out
              have hg7 := HG7.out
              refine ⟨j + 1, by omega, by go_num, ?_, ?_, ?_, ?_⟩
              · rw [x1, x2]
                exact HR6.out.kept (hg7.block b HR6.out.lt_b (fun e => hbm (by injection e))) (hg7.block g HR6.out.lt_g (fun e => hgm (by injection e)))
              · rw [x3]; exact ⟨_, HM7.out⟩
              · refine ⟨hg7.os.trans (HF7.out.os.trans HFr.out.os), hg7.tape.trans (HF7.out.tape.trans HFr.out.tape), hg7.output.trans (HF7.out.output.trans HFr.out.output), by have := hg7.size; omega, fun k hk hne => ?_⟩
                rw [hg7.block k (by omega) (fun e => hne (.inr (by injection e))), HF7.out.block k (by omega) (by omega)]
                exact HFr.out.block k hk hne
              · rw [x4, spots_append, iv_append, List.length_append]
                exact own_kept HO6.out (fun k hk => hg7.block k (own_ge HO6.out hk).2 (fun e => by have := (own_ge HO6.out hk).1; injection e with e; omega))
            case measure => simp [intOf]; omega
          · have htt' : ¬ (t : Int) ≤ (to : Int) := by omega
            have hteq : t / 64 = to / 64 := by omega
            have hlk := (hm2.block (w' := wr.drew) rfl).look (t : Int) hwf
            rw [hfat] at hlk
            have hlk' : (Instr.lookup 71 (.map (some mb)) (.int .u64 (t : Int)) false).run Try.prog wr.drew = .ok (.agg #[.int .i64 (f : Int), .int .i64 (l : Int)]) wr.drew := hlk
            have HX1 : Hid (ffF to fr (lsD D' (j + 1)) = upd (ffF to fr (lsD D' j)) (t % 64) f ∧ ffL to fr (lsD D' (j + 1)) = upd (ffL to fr (lsD D' j)) (t % 64) l ∧ frL fr (lsD D' (j + 1)) = setF (frL fr (lsD D' j)) (t : Int) none ∧ dueL to nw S (lsD D' (j + 1)) = dueL to nw S (lsD D' j)) := by
              show _ ∧ _
              rw [hEQ]
              have q1 := ffF_high (fr := fr) (ls := lsD D' j) (show to < t by omega) hteq
              have q2 := ffL_high (fr := fr) (ls := lsD D' j) (show to < t by omega) hteq
              rw [hfl] at q1 q2
              exact ⟨q1, q2, frL_more, dueL_high (by omega)⟩
            have hq64 : t % 64 < 64 := Nat.mod_lt _ (by decide)
            have c1 := hrep.sf (t % 64) hq64
            have c2 := hrep.sl (t % 64) hq64
            have fb := hrep.fb
            have r1 : (0 : Int) ≤ ((t % 64 : Nat) : Int) := by omega
            have r2' : ((t % 64 : Nat) : Int) < 64 := by omega
            have r3 : IntKind.u64.wrap ((t : Int) % 64) = ((t % 64 : Nat) : Int) := by rw [IntKind.wrap_u64]; omega
            obtain ⟨W4, hW4⟩ : ∃ W4, W4 = (wr.setCell ⟨b, 1 + t % 64 * 2, none⟩ (.int .i64 (f : Int))).setCell ⟨b, 1 + t % 64 * 2 + 1, none⟩ (.int .i64 (l : Int)) := ⟨_, rfl⟩
            have HR4 : Hid (Rep W4 b g n nw ct (.map (some mb)) (upd (ffF to fr (lsD D' j)) (t % 64) f) (upd (ffL to fr (lsD D' j)) (t % 64) l) A B E T) := by rw [hW4]; exact (hrep.setF (t % 64) hq64 f).setL (t % 64) hq64 l
            have HF4 : Hid (Fr (fun k => k = b ∨ k = mb) w3 W4) := by rw [hW4]; exact (hfr.setCell (a := ⟨b, 1 + t % 64 * 2, none⟩) (.inl rfl) _).setCell (a := ⟨b, 1 + t % 64 * 2 + 1, none⟩) (.inl rfl) _
            have hK4 : ∀ k, k ≠ b → W4.heap[k]? = wr.heap[k]? := fun k hk => by rw [hW4, Below.heap_setCell _ _ _ _ hk, Below.heap_setCell _ _ _ _ hk]
            have HM4 : Hid (IsM W4 mb (frL fr (lsD D' j)) s2) := hm2.block (hK4 mb (fun e => hbm e.symm))
            have HO4 := veil (own_kept (w' := W4) hown (fun k hk => hK4 k (by have := (own_ge hown hk).1; omega)))
            have HW4 := veil hW4
            generalize dueL to nw S (lsD D' j) = U at *
            clear hmt htn ek hk' hfl hgne hLst hrep hm2 hfr hown hlk hEQ hfat ht' HMM HSS HROW HI HNb hW4 hK4 HO HFr HM2 HRep HId
            go_upto_region 14 with fail
            go_region
            go_upto_region 15 with fail
            rw [← HW4.out]
            have htm4 := HR4.out.tm
            clear HW4 c1 c2 fb hlk' htm hrj
            go_wp2_with (first
              | (at_delete; refine wpList_delete_m rfl _ _ rfl (by exact HM4.out.block (w' := W4.drew) rfl) (t : Int) hwf rfl rfl ?_; intro w7 hm7 hg7; have HM7 := veil hm7; have HG7 := veil hg7; clear hm7 hg7))
            go_roundw
            case rel =>
              obtain ⟨x1, x2, x3, x4⟩ := HX1.out
              have hg7 := HG7.out
              refine ⟨j + 1, by omega, by go_num, ?_, ?_, ?_, ?_⟩
              · rw [x1, x2]
                exact HR4.out.kept (hg7.block b HR4.out.lt_b (fun e => hbm (by injection e))) (hg7.block g HR4.out.lt_g (fun e => hgm (by injection e)))
              · rw [x3]; exact ⟨_, HM7.out⟩
              · refine ⟨hg7.os.trans HF4.out.os, hg7.tape.trans HF4.out.tape, hg7.output.trans HF4.out.output, Nat.le_trans HF4.out.size hg7.size, fun k hk hne => ?_⟩
                have := HF4.out.size
                exact (hg7.block k (show k < W4.heap.size by omega) (fun e => hne (.inr (by injection e)))).trans (HF4.out.block k hk hne)
              · rw [x4]
                exact own_kept HO4.out (fun k hk => hg7.block k (own_ge HO4.out hk).2 (fun e => by have := (own_ge HO4.out hk).1; injection e with e; omega))
            case measure => simp [intOf]; omega
        · obtain rfl : j = N := by omega
          have hjN' : ¬ (j : Int) < (j : Int) := by omega
          have HE : Hid (Rep wr b g n nw ct (.map (some mb)) (ffF to fr (lsD D' j)) (ffL to fr (lsD D' j)) A B E T ∧ (∃ s', IsM wr mb (frL fr (lsD D' j)) s') ∧ Fr (O3 b g mb) w wr) := ⟨hrep, ⟨s2, hm2⟩, (Fr.of_below' HB3.out).trans (hfr.wide (fun k _ q => q.elim .inl (fun q => .inr (.inr q))))⟩
          have HP := veil (lsD_srt HSS.out (Nat.le_refl _))
          have HO := veil (own_base hown hsz3)
          clear hrep hm2 hfr hown HSS HROW HI HNb
          go_wp2
          go_ret
          exact ⟨lsD D' j, HP.out, HMM.out, ⟨_, rfl, HO.out⟩, HE.out⟩
    · intro k f l w1 cnt1 hk64 hlk hhas hrg1 hlt1 hg1 hs1 hen
      have hb1 : Below w.heap.size w w1 := HB.out.grown hg1 HB.out.size (fun j hj => by injection hj with hj; omega)
      have hisS : (fr (k : Int)).isSome = true := by rw [← HD1.out]; exact hhas
      have hnk : k ∉ ts := fun q => by
        have := ((HMEM.out k).1 q).2
        rw [hlk] at this
        cases this
      have hvb : ∀ j, (Value.slice av ts.length cv).ownBlock = some j → w.heap.size ≤ j ∧ j ≠ w.heap.size := fun j hj => by
        refine ⟨(own_ge HO.out hj).1, fun e => ?_⟩
        rcases HO.out.2 with ⟨hnil, _⟩ | ⟨g', cap', cur', hv', _, hg', _⟩
        · rw [hnil] at hj; cases hj
        · rw [hv'] at hj
          simp [Value.ownBlock] at hj
          subst hj
          obtain ⟨es, clock, since, seen, c0, _, _, _, _, hr, _⟩ := HRGr.out
          rw [← e, hg'] at hr
          cases hr
      have HO1 := veil (own_kept (w' := w1) HO.out (fun j hj => hg1.block j (own_ge HO.out hj).2 (fun e => (hvb j hj).2 (by injection e))))
      have HB1 := veil hb1
      have HVB := veil hvb
      have HRG1 := veil hrg1
      have HLT := veil hlt1
      have HTK := veil (HT1.out k hk64)
      have HIS := veil hisS
      have HNK := veil hnk
      have hs1' := HB1.out.size
      have hlen : ts.length ≤ 1024 := by
        have h1 := met_len HI.out (to := to) ts HND.out (fun k hk => ((HMEM.out k).1 hk).1)
        have h2 := HI.out.len_le
        omega
      clear hb1 hisS hnk hvb hrg1 hlt1 hg1 hlk hhas hs1
      by_cases hle : k / 64 ≤ to / 64
      · have hle' : ((k / 64 : Nat) : Int) ≤ ((to / 64 : Nat) : Int) := by omega
        generalize ((k / 64 : Nat) : Int) = q1 at *
        generalize ((to / 64 : Nat) : Int) = q2 at *
        go_wp2_with (first
          | (go_at_call 41; (have hh := HMK.out; clear hh); refine (HT2.out _).mono ?_; rintro e wx ⟨rfl, hw⟩; replace hw := hw.symm; subst hw)
          | (go_at_call 41; refine (HTK.out _).mono ?_; rintro e wx ⟨rfl, hw⟩; replace hw := hw.symm; subst hw; have HMK := veil trivial)
          | (at_builtin; refine wpList_append_own _ rfl _ _ 103 rfl w.heap.size 30 i0 (.int .u64 0) 1 8 Try.underlying103 hii hz0 hz1 hz2 rfl (by decide) (.slice av ts.length cv) ts.length (uv ts) rfl (by exact HO1.out.alloc _) ⟨w1.heap.size, 0, none⟩ 1 1 [.int .u64 (k : Int)] rfl rfl (cell_one _ _ _) (by simp [Value.oneCell']) (by unfold maxLen; omega) (by omega) (by simp; omega) ?_; intro v' w2 hown' hgrow _; have hb2 := (HB1.out.alloc HB1.out.size _).grown hgrow (by simp; omega) (fun k hk => (HVB.out k hk).1); have hr2 := (HRG1.out.alloc (.cells #[.int .u64 (k : Int)] 30)).kept hgrow (fun e => by have := (HVB.out mb e.symm).1; omega) (fun e => (HVB.out _ e.symm).2 rfl); obtain ⟨av', cv', rfl⟩ := own_slice hown'; have HO2 := veil hown'; have HB2 := veil hb2; have HR2 := veil hr2; clear hown' hgrow hb2 hr2))
        go_roundw
        case rel =>
          refine ⟨ts ++ [k], _, cnt1, HR2.out, HB2.out, by rw [List.length_append]; unfold uv; rw [List.map_append]; exact HO2.out, ?_, ?_⟩
          · rw [List.nodup_append]
            exact ⟨HND.out, by simp, fun a ha c hc e => HNK.out (by simp at hc; rw [← hc, ← e]; exact ha)⟩
          · intro j
            rw [List.mem_append, HMEM.out j]
            simp only [List.mem_singleton, same_u64, Bool.and_eq_false_iff, Bool.not_eq_false', decide_eq_true_eq]
            constructor
            · rintro (⟨q1, q2⟩ | rfl)
              · exact ⟨q1, .inl q2⟩
              · exact ⟨⟨HIS.out, hle⟩, .inr rfl⟩
            · rintro ⟨q1, q2 | q2⟩
              · exact .inl ⟨q1, q2⟩
              · exact .inr (by omega)
        case measure => rw [HR2.out.left_eq, HRGr.out.left_eq]; exact HLT.out
      · have hle' : ¬ ((k / 64 : Nat) : Int) ≤ ((to / 64 : Nat) : Int) := by omega
        generalize ((k / 64 : Nat) : Int) = q1 at *
        generalize ((to / 64 : Nat) : Int) = q2 at *
        go_wp2_with (first
          | (go_at_call 41; (have hh := HMK.out; clear hh); refine (HT2.out _).mono ?_; rintro e wx ⟨rfl, hw⟩; replace hw := hw.symm; subst hw)
          | (go_at_call 41; refine (HTK.out _).mono ?_; rintro e wx ⟨rfl, hw⟩; replace hw := hw.symm; subst hw; have HMK := veil trivial))
        go_roundw
        case rel =>
          refine ⟨ts, _, cnt1, HRG1.out, HB1.out, HO1.out, HND.out, ?_⟩
          intro j
          rw [HMEM.out j]
          simp only [same_u64, Bool.and_eq_false_iff, Bool.not_eq_false', decide_eq_true_eq]
          constructor
          · rintro ⟨q1, q2⟩
            exact ⟨q1, .inl q2⟩
          · rintro ⟨q1, q2 | q2⟩
            · exact ⟨q1, q2⟩
            · obtain rfl : j = k := by omega
              exact absurd q1.2 hle
        case measure => rw [HRG1.out.left_eq, HRGr.out.left_eq]; exact HLT.out
end
end Go.Proofs.Ytjmbadadelelfaa
