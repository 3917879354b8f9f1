/-
  For every deadlines TopSorts answers true: what is put in a heap and taken is sorted; changed to its deadline's other side it comes the other way round. No condition.
-/
import Derived.Test.YtiledmfnhahmiaaRows
import Derived.Test.YtiledmfnhahmiaaH15
import Derived.WalkKit
import Derived.ProofKit
import Derived.OpenShut
import Derived.RowKit3
import Derived.Laws.Cover2
import Derived.Laws.IdiomArrays
import Derived.ChangeOld
import Derived.Below
import Derived.Carry
import Derived.Lib.SmallJoins
namespace Go.Proofs.Ytiledmfnhahmiaa.topSorts
open Go.ChangeShapes Go.WideShapes Go.ChangeAt Go.RowKit
set_option linter.unusedVariables false

theorem own : ownKnob Try.prog.godebug = none := by kernel_rfl
theorem laidOut : laidOutB Try.prog = true := by kernel_rfl
open Go.Lib
def HasUp (D : Nat → Nat) (j : Nat) (L : List Item) : Prop := ∀ it, it ∈ L ↔ ∃ i, i < j ∧ it = upI D i
def HasDn (D : Nat → Nat) (j n : Nat) (L : List Item) : Prop := ∀ it, it ∈ L ↔ (∃ i, i < j ∧ it = dnI D i) ∨ (∃ i, j ≤ i ∧ i < n ∧ it = upI D i)
theorem HasUp.no {D : Nat → Nat} {j : Nat} {L : List Item} (h : HasUp D j L) : ∀ it ∈ L, it.1 ≠ j := by
  intro it hit e
  obtain ⟨i, hi, rfl⟩ := (h it).1 hit
  simp only [upI] at e
  omega
theorem HasUp.step {D : Nat → Nat} {j : Nat} {L : List Item} (h : HasUp D j L) : HasUp D (j + 1) (ins (j, D j, 0) L) := by
  intro it
  rw [mem_ins, h it]
  constructor
  · rintro (rfl | ⟨i, hi, rfl⟩)
    · exact ⟨j, by omega, rfl⟩
    · exact ⟨i, by omega, rfl⟩
  · rintro ⟨i, hi, rfl⟩
    by_cases e : i = j
    · subst e; exact .inl rfl
    · exact .inr ⟨i, by omega, rfl⟩
theorem HasDn.step {D : Nat → Nat} {j n : Nat} {L : List Item} (h : HasDn D j n L) (hj : j < n) : HasDn D (j + 1) n (ins (j, 65535 - D j, 1000 - j) (out j L)) := by
  intro it
  rw [mem_ins, mem_out, h it]
  constructor
  · rintro (rfl | ⟨⟨i, hi, rfl⟩ | ⟨i, hi, hi2, rfl⟩, hne⟩)
    · exact .inl ⟨j, by omega, rfl⟩
    · exact .inl ⟨i, by omega, rfl⟩
    · simp only [upI] at hne
      exact .inr ⟨i, by omega, hi2, rfl⟩
  · rintro (⟨i, hi, rfl⟩ | ⟨i, hi, hi2, rfl⟩)
    · by_cases e : i = j
      · subst e; exact .inl rfl
      · exact .inr ⟨.inl ⟨i, by omega, rfl⟩, e⟩
    · exact .inr ⟨.inr ⟨i, by omega, hi2, rfl⟩, by simp only [upI]; omega⟩
theorem len_up {D : Nat → Nat} {n : Nat} {L : List Item} (hg : Good 64 L) (h : HasUp D n L) : L.length = n := by
  have h1 : (L.map (·.1)).Perm (List.range n) := by
    rw [List.perm_ext_iff_of_nodup hg.ids List.nodup_range]
    intro k
    rw [List.mem_range, List.mem_map]
    constructor
    · rintro ⟨it, hit, rfl⟩
      obtain ⟨i, hi, rfl⟩ := (h it).1 hit
      exact hi
    · intro hk
      exact ⟨upI D k, (h _).2 ⟨k, hk, rfl⟩, rfl⟩
  have := h1.length_eq
  simpa using this
theorem cells_of {w : World} {base : Nat} {v : Value} {xs : List Int} (h : IL w base v xs) : ∃ g, ∀ j, j < xs.length → (∃ cap, v = .slice (some ⟨g, 0, none⟩) xs.length cap) ∧ g < w.heap.size ∧ w.cell? ⟨g, j, none⟩ = some (.int .i64 (xs.getD j 0)) := by
  by_cases hx : xs = []
  · exact ⟨0, fun j hj => by subst hx; simp at hj⟩
  · obtain ⟨g, cap, e, _, hg, hc⟩ := h.cells hx
    exact ⟨g, fun j hj => ⟨⟨cap, e⟩, hg, hc j hj⟩⟩
theorem wrap_u64 (x : Nat) (h : x < 65536) : IntKind.u64.wrap (65535 - (x : Int)) = ((65535 - x : Nat) : Int) := by
  simp [IntKind.wrap, IntKind.bits, IntKind.signed]
  omega
set_option maxHeartbeats 4000000 in
theorem way (a : Option Addr) (len cap : Nat) (D : Nat → Nat) (w : World) (hlen : len < 9223372036854775808) (hd : U16s w a len D) :
    Calls Try.prog 10 #[.slice a len cap] w fun e w' => e = .returned (.bool true) ∧ Below w.heap.size w w' := by
  have HD := veil hd
  have HN := veil (hnew_ok 64 w (by decide) (by decide))
  clear hd
  go_enter Try.func10, Try.ntmps10
  go_wp2_with (go_at_call 26; refine (HN.out).mono ?_; rintro e w1 ⟨rfl, hq, hb⟩; have HQ := veil hq; have HB := veil hb; clear hq hb)
  go_loopw [4, 5] (fun nn i wr => ∃ (j : Nat) (L : List Item), j ≤ len ∧ j ≤ 64 ∧ i = .int .i64 j ∧ nn = .int .i64 j ∧ HasUp D j L ∧ IsH wr (w.heap.size + 1) w.heap.size 64 L ∧ Below w.heap.size w wr) (fun _ i _ => len - (intOf i).toNat)
  case atStart => exact ⟨0, [], by omega, by omega, rfl, rfl, fun it => by simp, HQ.out, HB.out⟩
  case round =>
    obtain ⟨j, L, hj, hj1, rfl, rfl, hup, hq, hbel⟩ := hrel
    have HUP := veil hup
    have HQJ := veil hq
    have HBJ := veil hbel
    by_cases hjl : j < len ∧ j < 64
    · obtain ⟨hjl, hj2⟩ := hjl
      have hjl' : (j : Int) < (len : Int) := by omega
      rcases HD.out with h0 | ⟨lb, off, rfl, hlb, hc⟩
      · omega
      · obtain ⟨z1, z2⟩ := hc j hjl
        have y2 := (hbel.cell (p := ⟨lb, off + j, none⟩) hlb).trans z2
        have HI := veil (hinsert_ok hq j (D j) 0 (by omega) hup.no)
        clear hup hq hbel z2 hc
        go_wp2_with (go_at_call 23; refine (HI.out).mono ?_; rintro e w2 ⟨rfl, hq2, ho2⟩; have HQ2 := veil hq2; have HB2 := veil (below_fr HBJ.out (Nat.le_refl _) (Fr.of_only ho2) (by omega) (by omega)); clear hq2 ho2)
        go_roundw
        case rel => exact ⟨j + 1, _, by omega, by omega, by go_num, by go_num, HUP.out.step, HQ2.out, HB2.out⟩
        case measure => simp [intOf]; omega
    · have HF := veil (hfork_ok hq)
      have hlenL := len_up hq.good hup
      have hDn : HasDn D 0 j L := fun it => by
        rw [hup it]
        constructor
        · rintro ⟨i, hi, rfl⟩; exact .inr ⟨i, by omega, hi, rfl⟩
        · rintro (⟨i, hi, rfl⟩ | ⟨i, _, hi, rfl⟩)
          · omega
          · exact ⟨i, hi, rfl⟩
      have HDN := veil hDn
      have HLL := veil hlenL
      have hbl := hq.blocks
      have hjle : ∀ k, k < j → k < len := fun k hk => by omega
      have HJL := veil hjle
      have hsz := hbel.size
      clear hDn hup hq hbel hlenL hjle
      have key : ∀ (P : Prop), (¬ (j : Int) < (len : Int) → P) → ((j : Int) < (len : Int) → ¬ (j : Int) < 64 → P) → P := fun P p1 p2 => by
        by_cases h1 : (j : Int) < (len : Int)
        · exact p2 h1 (by omega)
        · exact p1 h1
      refine key _ (fun e1 => ?_) (fun e1 e2 => ?_)
      all_goals
        clear key hjl
        go_wp2_with (go_at_call 19; refine (HF.out).mono ?_; rintro e w2 ⟨b', g', rfl, k1, k2, k3, k4⟩; have HF2 := veil k3; have HB2 := veil k4; have hs2 := k4.size; clear k3 k4)
        go_loopw [7] (fun i wx => ∃ (k : Nat) (M : List Item), k ≤ j ∧ i = .int .i64 k ∧ HasDn D k j M ∧ IsH wx b' g' 64 M ∧ Below wr.heap.size wr wx) (fun i _ => j - (intOf i).toNat)
        case atStart => exact ⟨0, L, by omega, rfl, HDN.out, HF2.out, HB2.out⟩
        case round =>
          obtain ⟨k, M, hk, rfl, hdn, hqm, hbm⟩ := hrel
          have HDK := veil hdn
          have HBM := veil hbm
          have HQM := veil hqm
          have hbw := HBJ.out.trans (hbm.mono hsz)
          by_cases hkj : k < j
          · rcases HD.out with h0 | ⟨lb, off, rfl, hlb, hc⟩
            · have := HJL.out k hkj; omega
            · obtain ⟨z1, z2⟩ := hc k (HJL.out k hkj)
              have hkl : (k : Int) < (len : Int) := by have := HJL.out k hkj; omega
              have hkl2 : k < len := HJL.out k hkj
              have y2 := (hbw.cell (p := ⟨lb, off + k, none⟩) hlb).trans z2
              have hch := hchange_ok hqm k (65535 - D k) (1000 - k) (D k) 0 ((hdn _).2 (.inr ⟨k, Nat.le_refl _, hkj, rfl⟩))
              rw [show ((65535 - D k : Nat) : Int) = 65535 - (D k : Int) by omega, show ((1000 - k : Nat) : Int) = 1000 - (k : Int) by omega] at hch
              have HC := veil hch
              clear hch hdn hqm hbm hbw z2 hc
              go_wp2_with (go_at_call 20; refine (HC.out).mono ?_; rintro e w3 ⟨rfl, hq3, ho3⟩; have HQ3 := veil hq3; have HB3 := veil (below_fr HBM.out (Nat.le_refl _) (Fr.of_only ho3) k1 k2); clear hq3 ho3)
              go_roundw
              case rel => exact ⟨k + 1, _, by omega, by go_num, HDK.out.step hkj, HQ3.out, HB3.out⟩
              case measure => simp [intOf]; omega
          · have hkj' : k = j := by omega
            subst hkj'
            have hQ := HQJ.out.below hbm
            have hdn2 : ∀ it, it ∈ M ↔ ∃ i, i < k ∧ it = dnI D i := fun it => by
              rw [hdn it]
              constructor
              · rintro (h | ⟨i, h1, h2, _⟩)
                · exact h
                · omega
              · exact .inl
            have hDb : ∀ i, i < k → D i < 65536 := fun i hi => by
              rcases HD.out with h0 | ⟨lb, off, _, _, hc⟩
              · have := HJL.out i hi; omega
              · exact (hc i (HJL.out i hi)).1
            have hrev := other_way hDb hj1 hQ.good.srt hqm.good.srt HUP.out hdn2
            have hml : M.length = k := by have := congrArg List.length hrev; rw [List.length_reverse, idsL_len, idsL_len] at this; have := HLL.out; omega
            have HRV := veil hrev
            have HML := veil hml
            have HQQ := veil hQ
            have hkk : ¬ (k : Int) < (k : Int) := by omega
            clear hdn hqm hbm hQ hdn2 hDb hrev hml hbw
            have HE5 : Hid ((idsL L).length = k) := by rw [Hid, idsL_len]; exact HLL.out
            have HE6 : Hid ((idsL M).length = k) := by rw [Hid, idsL_len]; exact HML.out
            go_wp2_with (first
              | (go_at_call 14; refine (hlist_ok HQ5.out).mono ?_; rintro e w6 ⟨v6, rfl, hil, hb6⟩; obtain ⟨gb, hcs6⟩ := cells_of hil; obtain ⟨a6, c6, hv6⟩ := hil.slice; rw [HE6.out] at hv6 hcs6; subst hv6; have HC6 := veil hcs6; have HC5' := veil (fun i (hi : i < k) => And.intro (HC5.out i hi).1 ((hb6.cell (p := ⟨ga, i, none⟩) (HC5.out i hi).2.1).trans (HC5.out i hi).2.2)); have HB6 := veil (HB5.out.trans (hb6.mono HB5.out.size)); clear hil hb6 hcs6)
              | (go_at_call 14; refine (hlist_ok HQQ.out).mono ?_; rintro e w5 ⟨v5, rfl, hil, hb5⟩; obtain ⟨ga, hcs5⟩ := cells_of hil; obtain ⟨a5, c5, hv5⟩ := hil.slice; rw [HE5.out] at hv5 hcs5; subst hv5; have HC5 := veil hcs5; have HQ5 := veil (HQM.out.below hb5); have HB5 := veil ((HBJ.out.trans (HBM.out.mono hsz)).trans (hb5.mono (HBJ.out.trans (HBM.out.mono hsz)).size)); clear hil hb5 hcs5))
            go_loopw [10] (fun i wx => ∃ (i0 q : Nat), i0 ≤ k ∧ i = .int .i64 i0 ∧ wx = w6.drewN q) (fun i _ => k - (intOf i).toNat)
            case atStart => exact ⟨0, 0, by omega, rfl, rfl⟩
            case round =>
              obtain ⟨i0, q, hi0, rfl, rfl⟩ := hrel
              by_cases hik : i0 < k
              · obtain ⟨⟨c5', he5⟩, y5⟩ := HC5'.out i0 hik
                obtain ⟨⟨c6', he6⟩, _, y6⟩ := HC6.out (k - 1 - i0) (by omega)
                have ha5 : a5 = some ⟨ga, 0, none⟩ := by injection he5
                have ha6 : a6 = some ⟨gb, 0, none⟩ := by injection he6
                clear he5 he6
                subst ha5
                subst ha6
                rw [HRV.out, List.getD, List.getElem?_reverse (by rw [HE5.out]; omega), HE5.out, show k - 1 - (k - 1 - i0) = i0 by omega, ← List.getD] at y6
                generalize (idsL L).getD i0 0 = x at *
                have hx1 : (k : Int) - 1 - (i0 : Int) = ((k - 1 - i0 : Nat) : Int) := by omega
                have hx2 : k - 1 - i0 < k := by omega
                generalize k - 1 - i0 = i1 at *
                go_wp2
                go_quiet (fail)
                go_wp2
                go_roundw
                case rel => exact ⟨i0 + 1, _, by omega, by go_num, rfl⟩
                case measure => simp [intOf]; omega
              · have hik' : ¬ (i0 : Int) < (k : Int) := by omega
                go_wp2
                go_ret
                exact ⟨rfl, below_drewN HB6.out _⟩

set_option maxHeartbeats 1000000 in
theorem walk (a0 : Option Addr) (len0 cap0 : Nat) (D0 : Nat → Nat) (w : World) (n0 : len0 < 9223372036854775808) (c0 : len0 ≤ cap0) (m0 : cap0 < 9223372036854775808) (w0 : U16s w a0 len0 D0) :
    Calls Try.prog 10 #[.slice a0 len0 cap0] w fun e w' => e = .returned (.bool true) ∧ Below w.heap.size w w' := by
  exact way a0 len0 cap0 D0 w n0 w0

set_option maxHeartbeats 1000000 in
set_option maxRecDepth 100000 in
theorem lifted (os : Os) (started : os.Started) (H : Type) (enc : TypeId × Value → H) :
    ReturnsInHanded {} Try.checked os 10 .any (Rows.topSortsSpec.pre6 enc Try.prog Try.f10 Rows.topSortsRow.domain false) (Rows.topSortsSpec.post enc Try.prog Try.f10 false true false false) := by
  refine returnsInHanded_of_change (C := Try.checked) own started (by kernel_rfl) Try.func10
    (ChangeSpec.witness6 (enc := enc) (C := Try.checked) false ⟨#[], #[.slice none 0 0], []⟩ 8 (by kernel_rfl) (by kernel_rfl) (by kernel_rfl) (by kernel_rfl)) ?_
  intro W base args ds gs before hval0 hW hcnd _
  have hval : ∀ (j : Nat) t v, Try.f10.params[j]? = some t → args[j]? = some v → Value.okWide Try.prog W .any base t v := hval0
  have hW' := hW
  obtain ⟨p, q, hA0, hV, rfl, hfz, hnd⟩ := hW
  have hA : DataW.TrodAll enc Try.prog W 0 (fun _ => true) true Try.f10.params.toList args.toList ds p := hA0
  rw [Try.params10] at hA hval
  obtain ⟨v0, vs0, d0, ds0, p0', q0', hargs, rfl, rfl, h0, r0⟩ := trodAll_cons hA
  obtain ⟨rfl, rfl, rfl⟩ := trodAll_nil r0
  obtain rfl : args = #[v0] := by cases args; simp_all
  obtain ⟨rfl, rfl⟩ := trodVars_none hV
  have kk0 := h0
  have lt0 : ∀ x ∈ p0', x.block < W.heap.size := by obtain ⟨m, hm⟩ := kk0; exact DataW.trod_lt m _ _ _ hm
  obtain ⟨a0, len0, cap0, rfl⟩ := okWide_slice Try.underlying52 (hval 0 52 v0 rfl rfl)
  obtain ⟨n0, c0, m0, D0, w0⟩ : len0 < 9223372036854775808 ∧ len0 ≤ cap0 ∧ cap0 < 9223372036854775808 ∧ ∃ D, U16s W a0 len0 D := by
    obtain ⟨fuel, hf⟩ := h0
    exact open_u16s hf
  clear hA0 hval0
  refine (walk a0 len0 cap0 D0 W n0 c0 m0 w0).mono fun e W' ⟨he, bel⟩ => ?_
  subst he
  exact ⟨_, rfl, _, _, _, [], _, [], hW', trodAll_mk1 (shut_bool Try.underlying4 _), (trodAll_cons_mk (Below.trod laidOut (by kernel_rfl) (of_decide_eq_true (by kernel_rfl)) kk0 bel lt0) trodAll_mk0), rfl, bel.frame _, fun h => by cases h⟩

theorem over : Rows.topSortsRow.holds Try.pinned (OpenSpec.ofChange Rows.topSortsSpec) :=
  OpenClaim.holds_of_wide 10 Try.f10 rfl rfl rfl rfl rfl rfl rfl ⟨rfl, rfl, rfl, rfl, rfl⟩ rfl rfl rfl rfl rfl (by kernel_rfl) Try.func10 (by kernel_rfl)
    (of_decide_eq_true (by kernel_rfl)) (by unfold Func.isWrapper; first | (rw [if_pos (by decide +kernel)]; kernel_rfl) | (rw [if_neg (by decide +kernel)]; exact ⟨rfl, rfl⟩))
    (fun os started H enc _ => lifted os started H enc)
end Go.Proofs.Ytiledmfnhahmiaa.topSorts
namespace Go.Proofs.Ytiledmfnhahmiaa
/-- The statement. -/
theorem topSorts_holds : Rows.TopSortsSaid := topSorts.over
#print axioms topSorts_holds
end Go.Proofs.Ytiledmfnhahmiaa
