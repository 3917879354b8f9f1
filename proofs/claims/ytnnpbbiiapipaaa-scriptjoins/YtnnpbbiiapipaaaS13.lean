/-
  script: Decode walked.
-/
import Derived.Test.YtnnpbbiiapipaaaS12
import Derived.Test.YtnnpbbiiapipaaaS4
import Derived.ScopeJumps
import Derived.WalkMore
import Derived.OrdersHeld
namespace Go.Proofs.Ytnnpbbiiapipaaa
open Go.RowKit Go.Lib
set_option linter.unusedVariables false
/-- What Decode answers. -/
def Decs (w : World) (T : TypeId) (l : List Nat) (e : Ending) (w' : World) : Prop :=
  Below w.heap.size w w' ∧ ((∃ Z v, Good l (Z.map (·.1)) ∧ e = .returned (.tuple #[v, .int .i64 0, .int .i64 0]) ∧ Rw w' w.heap.size T v Z) ∨ (∃ L : List En, Bad l L ∧ e = .returned (.tuple #[.slice none 0 0, .int .i64 3, .int .i64 (L.length : Int)])))
def lenOf : Value → Nat
  | .slice _ n _ => n
  | _ => 0
theorem info_entry : (Try.prog.info? 36).map (fun i => (i.zero, i.size, i.bytes)) = some (some (.agg #[.int .i64 0, .int .i64 0, .int .u64 0, .int .i64 0, .slice none 0 0, .int .u64 0, .int .u64 0, .int .i64 0, .int .u8 0, .int .i64 0]), 10, 96) := by kernel_rfl
theorem rdE_64 {l : List Nat} (h : RightE (rdE l)) : (rdE l).code.length ≤ 64 := by
  rcases h with ⟨e, _⟩ | ⟨e, _⟩ | ⟨e, h⟩ | e | ⟨e, _⟩
  · rw [e]; simp [mkStep]
  · rw [e]; simp [mkTick]
  · exact (rtc_facts h).2.1
  · rw [e]; simp [mkAdmit]
  · rw [e]; simp [mkStart]
theorem rdE_small (l : List Nat) : (rdE l).code.length < 9223372036854775808 := by
  unfold rdE
  repeat' split
  all_goals try (simp [mkStep, mkTick, mkAdmit, mkStart]; done)
  · show (rdC _).length < _
    unfold rdC
    split
    · rename_i h
      have := (rtc_facts h.2).2.1
      omega
    · simp
/-- One round's way on. -/
theorem step_on {l0 : List Nat} {L : List En} {k : Nat} (hk : k < l0.length) (hs : ∀ y ∈ l0, y < 256) (hL : Rights L) (hl : l0 = all L ++ l0.drop k) (h : sz (l0.drop k) ≤ (l0.drop k).length) (hy : RightE (rdE ((l0.drop k).take (sz (l0.drop k))))) :
    Rights (L ++ [rdE ((l0.drop k).take (sz (l0.drop k)))]) ∧ l0 = all (L ++ [rdE ((l0.drop k).take (sz (l0.drop k)))]) ++ l0.drop (k + sz (l0.drop k)) ∧ k + sz (l0.drop k) ≤ l0.length ∧ WfE (rdE ((l0.drop k).take (sz (l0.drop k)))) := by
  obtain ⟨q1, q2⟩ := yes_one (take_small hs k).2 h hy
  refine ⟨fun x hx => ?_, ?_, by rw [List.length_drop] at h; omega, q1⟩
  · rcases List.mem_append.1 hx with hx | hx
    · exact hL x hx
    · obtain rfl : x = _ := by simpa using hx
      exact ⟨hy, q1⟩
  · rw [all_one, List.append_assoc, ← List.drop_drop, ← q2]
    exact hl
theorem cell_alloc_old {w : World} {o : Obj} {a : Addr} {u : Value} (h : w.cell? a = some u) : (w.alloc o).drew.cell? a = some u := ((Below.refl w.heap.size w).alloc (Nat.le_refl _) o |>.cell (p := a) (World.block_lt_of_cell? w _ h)).trans h
set_option maxHeartbeats 4000000 in
theorem dec_some (w : World) (lb off cap : Nat) (l0 : List Nat) (hB : Bl w lb off l0) (h0 : 0 < l0.length) (hm : l0.length < 100000) (hc : l0.length ≤ cap) (hc2 : cap < 9223372036854775808) :
    Calls Try.prog 18 #[.slice (some ⟨lb, off, none⟩) l0.length cap] w (Decs w 36 l0) := by
  obtain ⟨i0, hi, hz0, hz1, hz2⟩ := info_parts info_entry
  have HBL := veil hB
  clear hB
  go_enter Try.func18, Try.ntmps18
  go_wp2
  refine wp_scope_jumps 0 (fun a' w' => ∃ (L : List En) (nv : Nat) (av : Option Addr) (cv : Nat) (u0 u1 u2 u3 u4 u6 u7 u8 u9 u10 u11 u12 u13 u14 u15 u16 u17 u18 u19 u20 u21 u22 u23 u24 u25 u26 u27 u28 u29 u30 u31 u32 u33 : Value), a' = { tmps := #[u0, u1, u2, u3, u4, .slice av nv cv, u6, u7, u8, u9, u10, u11, u12, u13, u14, u15, u16, u17, u18, u19, u20, u21, u22, u23, u24, u25, u26, u27, u28, u29, u30, u31, u32, u33], defers := [] } ∧ nv = L.length ∧ Bad l0 L ∧ Below w.heap.size w w') (fun _ _ => 0) rfl ?_ ?_
  rotate_left
  · rintro a' w' ⟨L, nv, av, cv, u0, u1, u2, u3, u4, u6, u7, u8, u9, u10, u11, u12, u13, u14, u15, u16, u17, u18, u19, u20, u21, u22, u23, u24, u25, u26, u27, u28, u29, u30, u31, u32, u33, rfl, rfl, hbad, hbel⟩
    have HBD := veil hbad
    have HBW := veil hbel
    clear hbad hbel
    go_wp2
    simp only [Exit.jump]
    go_ret3
    exact ⟨HBW.out, .inr ⟨L, HBD.out, rfl⟩⟩
  go_wp2
  go_loopw [0, 5] (fun s0 s5 wr => ∃ (Z : Zs) (k : Nat) (ba : Addr), Rights (Z.map (·.1)) ∧ k ≤ l0.length ∧ l0 = all (Z.map (·.1)) ++ l0.drop k ∧ (k < l0.length → ba = ⟨lb, off + k, none⟩) ∧ s0 = .slice (some ba) (l0.length - k) (cap - k) ∧ Rw wr w.heap.size 36 s5 Z ∧ Below w.heap.size w wr ∧ Z.length ≤ k) (fun s0 _ _ => lenOf s0)
  case atStart => exact ⟨[], 0, ⟨lb, off, none⟩, (fun x hx => (by cases hx)), by omega, rfl, fun _ => rfl, rfl, rw_nil _ _ _, Below.refl _ _, Nat.le_refl _⟩
  case round =>
    obtain ⟨Z, k, ba, hRt, hk, hl0, hba, rfl, hRw, hbel, hZk⟩ := hrel
    obtain ⟨va, vl, vc, hv⟩ := row_slice hRw.row
    subst hv
    by_cases hkl : k < l0.length
    · have hba' := hba hkl
      subst hba'
      have hBr := (HBL.out.below hbel).drop k
      have hsm := HBL.out.small
      have hlen : (l0.drop k).length = l0.length - k := List.length_drop
      have HLN : Hid (Calls Try.prog 28 #[.slice (some ⟨lb, off + k, none⟩) (l0.length - k) (cap - k)] wr fun e w' => e = .returned (.int .i64 (sz (l0.drop k) : Int)) ∧ w' = wr) := by
        have q := len_ok wr lb (off + k) (cap - k) (l0.drop k) hBr (by omega) (by omega)
        rwa [hlen] at q
      have hn0 : 0 < ((l0.length - k : Nat) : Int) := by omega
      have hS1 : 1 ≤ sz (l0.drop k) := szOf_pos _ _ _
      have HV : Hid (vl = Z.length) := by
        rcases hRw.row.2 with ⟨q, q0⟩ | ⟨g, cap', cur, q, _⟩
        · simp only [Value.slice.injEq] at q; show _ = _; omega
        · simp only [Value.slice.injEq] at q; exact q.2.1
      by_cases hsh : (l0.drop k).length < sz (l0.drop k)
      · have HBAD : Hid (Bad l0 (Z.map (·.1))) := ⟨hRt, l0.drop k, by intro q; rw [q] at hlen; simp at hlen; omega, no_short hsh, hl0⟩
        have hlt : ((l0.length - k : Nat) : Int) < (sz (l0.drop k) : Int) := by omega
        have HBW := veil hbel
        have HVL : Hid (vl = (Z.map (·.1)).length) := by rw [List.length_map]; exact HV.out
        clear hRt hl0 hba hRw hbel hBr hsm hsh
        generalize sz (l0.drop k) = S at *
        generalize l0.length - k = n at *
        go_wp2_with (go_at_call 28; refine (HLN.out).mono ?_; rintro e w1 ⟨rfl, hw⟩; replace hw := hw.symm; subst hw)
        go_step3
        exact ⟨rfl, Z.map (·.1), vl, va, vc, _, _, _, _, _, _, _, _, _, _, _, _, _, _, _, _, _, _, _, _, _, _, _, _, _, _, _, _, _, _, _, _, _, rfl, HVL.out, HBAD.out, HBW.out⟩
      · have hle : sz (l0.drop k) ≤ (l0.drop k).length := by omega
        have hlt : ¬ ((l0.length - k : Nat) : Int) < (sz (l0.drop k) : Int) := by omega
        obtain ⟨y, hy⟩ : ∃ y, y = rdE ((l0.drop k).take (sz (l0.drop k))) := ⟨_, rfl⟩
        have htl : ((l0.drop k).take (sz (l0.drop k))).length = sz (l0.drop k) := by rw [List.length_take]; omega
        have HRD : Hid (Calls Try.prog 29 #[.slice (some ⟨lb, off + k, none⟩) (sz (l0.drop k)) (cap - k)] wr fun e w' => ∃ ca cc, e = .returned (.agg #[.int .i64 y.d, .int .i64 y.p, .int .u64 (y.dr : Int), .int .i64 y.n, .slice ca y.code.length cc, .int .u64 (y.bu : Int), .int .u64 (y.pe : Int), .int .i64 y.pr, .int .u8 (y.lv : Int), .int .i64 y.sv]) ∧ CRow w' wr.heap.size (.slice ca y.code.length cc) y.code ∧ Below wr.heap.size wr w') := by
          have q := preads wr lb (off + k) (cap - k) ((l0.drop k).take (sz (l0.drop k))) (hBr.take _) (by rw [sz_take hle, htl]) (by omega) (by omega) (by omega) y hy
          rwa [htl] at q
        have hys : y.code.length < 9223372036854775808 := by rw [hy]; exact rdE_small _
        have hsz := hbel.size
        have hSc : (sz (l0.drop k) : Int) ≤ ((cap - k : Nat) : Int) := by omega
        by_cases hrt : RightE y
        · have HRT := veil (fun W ca cc (h : Cod W ca y.code) => right_yes' W y ca cc h hys hrt)
          obtain ⟨q1, q2, q3, q4⟩ := step_on hkl hsm hRt hl0 hle (hy ▸ hrt)
          rw [← hy] at q1 q2 q4
          have HON : Hid (Rights (Z.map (·.1) ++ [y]) ∧ l0 = all (Z.map (·.1) ++ [y]) ++ l0.drop (k + sz (l0.drop k)) ∧ k + sz (l0.drop k) ≤ l0.length ∧ WfE y ∧ y.code.length ≤ 64) := ⟨q1, q2, q3, q4, by rw [hy]; exact rdE_64 (hy ▸ hrt)⟩
          have HRW := veil hRw
          have HBW := veil hbel
          have hZ : Z.length < 100000 := by omega
          clear q1 q2 q3 q4 hRt hl0 hba hRw hbel hBr hsm hsh hrt hy htl hle
          have HE1 : Hid (l0.length - k - sz (l0.drop k) = l0.length - (k + sz (l0.drop k)) ∧ cap - k - sz (l0.drop k) = cap - (k + sz (l0.drop k)) ∧ off + k + sz (l0.drop k) = off + (k + sz (l0.drop k)) ∧ Z.length + 1 ≤ k + sz (l0.drop k) ∧ l0.length - k - sz (l0.drop k) < l0.length - k) := ⟨by omega, by omega, by omega, by omega, by omega⟩
          have HKS : Hid (k + sz (l0.drop k) < l0.length → ¬ cap - k = sz (l0.drop k)) := fun q => by omega
          generalize hSd : sz (l0.drop k) = S at *
          clear hSd
          generalize hnd : l0.length - k = n at *
          clear hnd
          generalize hcd : cap - k = c at *
          clear hcd
          go_wp2_with (first
            | (go_at_call 14; refine (HRT.out _ _ _ HCD.out).mono ?_; rintro e w2 ⟨rfl, hb⟩; have z0 := box_cell hb 0 _ rfl; have z1 := box_cell hb 1 _ rfl; have z2 := box_cell hb 2 _ rfl; have z3 := box_cell hb 3 _ rfl; have z4 := box_cell hb 4 _ rfl; have z5 := box_cell hb 5 _ rfl; have z6 := box_cell hb 6 _ rfl; have z7 := box_cell hb 7 _ rfl; have z8 := box_cell hb 8 _ rfl; have z9 := box_cell hb 9 _ rfl; have HBW2 := veil (HBW1.out.trans (hb.mono hs1)); have HRW2 := veil (HRW1.out.below hb); have HCR2 := veil (HCR1.out.below hb); have hs2 := HBW2.out.size; have HBX := veil ((bx_new w1 #[.int .i64 y.d, .int .i64 y.p, .int .u64 (y.dr : Int), .int .i64 y.n, .slice ca y.code.length cc, .int .u64 (y.bu : Int), .int .u64 (y.pe : Int), .int .i64 y.pr, .int .u8 (y.lv : Int), .int .i64 y.sv] 36).below hb (by simp)); clear hb)
            | (go_at_call 29; refine (HRD.out).mono ?_; rintro e w1 ⟨ca, cc, rfl, hcr, hb⟩; have hsw := hb.size; have hal := (Below.refl w1.heap.size w1).alloc (Nat.le_refl _) (.cells #[.int .i64 y.d, .int .i64 y.p, .int .u64 (y.dr : Int), .int .i64 y.n, .slice ca y.code.length cc, .int .u64 (y.bu : Int), .int .u64 (y.pe : Int), .int .i64 y.pr, .int .u8 (y.lv : Int), .int .i64 y.sv] 36); have HCR1 := veil ((hcr.low hsz).below hal); have HCD := veil (cod_of_row (hcr.below hal)); have HRW1 := veil ((HRW.out.below hb).below hal); have HBW1 := veil ((HBW.out.trans (hb.mono hsz)).trans (hal.mono (by have := hb.size; omega))); have hs1 := HBW1.out.size; clear hb hcr hal)
            | (go_at_call 28; refine (HLN.out).mono ?_; rintro e w1 ⟨rfl, hw⟩; replace hw := hw.symm; subst hw))
          have HRW3 : Hid (Rw (w2.alloc (.cells #[.int .i64 y.d, .int .i64 y.p, .int .u64 (y.dr : Int), .int .i64 y.n, .slice ca y.code.length cc, .int .u64 (y.bu : Int), .int .u64 (y.pe : Int), .int .i64 y.pr, .int .u8 (y.lv : Int), .int .i64 y.sv] 36)).drew w.heap.size 36 (.slice va vl vc) Z) := ⟨own_like (World.ownsRow.alloc HRW2.out.row _) rfl, fun z hz => ⟨own_like (World.ownsRow.alloc (HRW2.out.cod z hz).1 _) rfl, (HRW2.out.cod z hz).2⟩⟩
          have HCR3 : Hid (CRow (w2.alloc (.cells #[.int .i64 y.d, .int .i64 y.p, .int .u64 (y.dr : Int), .int .i64 y.n, .slice ca y.code.length cc, .int .u64 (y.bu : Int), .int .u64 (y.pe : Int), .int .i64 y.pr, .int .u8 (y.lv : Int), .int .i64 y.sv] 36)).drew w.heap.size (.slice ca y.code.length cc) y.code) := own_like (World.ownsRow.alloc HCR2.out _) rfl
          have HBW3 : Hid (Below w.heap.size w (w2.alloc (.cells #[.int .i64 y.d, .int .i64 y.p, .int .u64 (y.dr : Int), .int .i64 y.n, .slice ca y.code.length cc, .int .u64 (y.bu : Int), .int .u64 (y.pe : Int), .int .i64 y.pr, .int .u8 (y.lv : Int), .int .i64 y.sv] 36)).drew) := below_drew (HBW2.out.alloc hs2 _)
          have hs3 : w.heap.size ≤ (w2.alloc (.cells #[.int .i64 y.d, .int .i64 y.p, .int .u64 (y.dr : Int), .int .i64 y.n, .slice ca y.code.length cc, .int .u64 (y.bu : Int), .int .u64 (y.pe : Int), .int .i64 y.pr, .int .u8 (y.lv : Int), .int .i64 y.sv] 36)).drew.heap.size := HBW3.out.size
          have HNW : Hid (∀ j u, (ec y ca cc)[j]? = some u → (w2.alloc (.cells #[.int .i64 y.d, .int .i64 y.p, .int .u64 (y.dr : Int), .int .i64 y.n, .slice ca y.code.length cc, .int .u64 (y.bu : Int), .int .u64 (y.pe : Int), .int .i64 y.pr, .int .u8 (y.lv : Int), .int .i64 y.sv] 36)).drew.cell? ((⟨w2.heap.size, 0, none⟩ : Addr).add j) = some u) := cells_new w2 (ec y ca cc) _
          have k0 := (cell_alloc_old (o := .cells #[.int .i64 y.d, .int .i64 y.p, .int .u64 (y.dr : Int), .int .i64 y.n, .slice ca y.code.length cc, .int .u64 (y.bu : Int), .int .u64 (y.pe : Int), .int .i64 y.pr, .int .u8 (y.lv : Int), .int .i64 y.sv] 36) z0)
          have k1 := (cell_alloc_old (o := .cells #[.int .i64 y.d, .int .i64 y.p, .int .u64 (y.dr : Int), .int .i64 y.n, .slice ca y.code.length cc, .int .u64 (y.bu : Int), .int .u64 (y.pe : Int), .int .i64 y.pr, .int .u8 (y.lv : Int), .int .i64 y.sv] 36) z1)
          have k2 := (cell_alloc_old (o := .cells #[.int .i64 y.d, .int .i64 y.p, .int .u64 (y.dr : Int), .int .i64 y.n, .slice ca y.code.length cc, .int .u64 (y.bu : Int), .int .u64 (y.pe : Int), .int .i64 y.pr, .int .u8 (y.lv : Int), .int .i64 y.sv] 36) z2)
          have k3 := (cell_alloc_old (o := .cells #[.int .i64 y.d, .int .i64 y.p, .int .u64 (y.dr : Int), .int .i64 y.n, .slice ca y.code.length cc, .int .u64 (y.bu : Int), .int .u64 (y.pe : Int), .int .i64 y.pr, .int .u8 (y.lv : Int), .int .i64 y.sv] 36) z3)
          have k4 := (cell_alloc_old (o := .cells #[.int .i64 y.d, .int .i64 y.p, .int .u64 (y.dr : Int), .int .i64 y.n, .slice ca y.code.length cc, .int .u64 (y.bu : Int), .int .u64 (y.pe : Int), .int .i64 y.pr, .int .u8 (y.lv : Int), .int .i64 y.sv] 36) z4)
          have k5 := (cell_alloc_old (o := .cells #[.int .i64 y.d, .int .i64 y.p, .int .u64 (y.dr : Int), .int .i64 y.n, .slice ca y.code.length cc, .int .u64 (y.bu : Int), .int .u64 (y.pe : Int), .int .i64 y.pr, .int .u8 (y.lv : Int), .int .i64 y.sv] 36) z5)
          have k6 := (cell_alloc_old (o := .cells #[.int .i64 y.d, .int .i64 y.p, .int .u64 (y.dr : Int), .int .i64 y.n, .slice ca y.code.length cc, .int .u64 (y.bu : Int), .int .u64 (y.pe : Int), .int .i64 y.pr, .int .u8 (y.lv : Int), .int .i64 y.sv] 36) z6)
          have k7 := (cell_alloc_old (o := .cells #[.int .i64 y.d, .int .i64 y.p, .int .u64 (y.dr : Int), .int .i64 y.n, .slice ca y.code.length cc, .int .u64 (y.bu : Int), .int .u64 (y.pe : Int), .int .i64 y.pr, .int .u8 (y.lv : Int), .int .i64 y.sv] 36) z7)
          have k8 := (cell_alloc_old (o := .cells #[.int .i64 y.d, .int .i64 y.p, .int .u64 (y.dr : Int), .int .i64 y.n, .slice ca y.code.length cc, .int .u64 (y.bu : Int), .int .u64 (y.pe : Int), .int .i64 y.pr, .int .u8 (y.lv : Int), .int .i64 y.sv] 36) z8)
          have k9 := (cell_alloc_old (o := .cells #[.int .i64 y.d, .int .i64 y.p, .int .u64 (y.dr : Int), .int .i64 y.n, .slice ca y.code.length cc, .int .u64 (y.bu : Int), .int .u64 (y.pe : Int), .int .i64 y.pr, .int .u8 (y.lv : Int), .int .i64 y.sv] 36) z9)
          have HKB : Hid (∀ w3 : World, (w2.alloc (.cells #[.int .i64 y.d, .int .i64 y.p, .int .u64 (y.dr : Int), .int .i64 y.n, .slice ca y.code.length cc, .int .u64 (y.bu : Int), .int .u64 (y.pe : Int), .int .i64 y.pr, .int .u8 (y.lv : Int), .int .i64 y.sv] 36)).drew.grownBy w3 (Value.ownBlock (.slice va vl vc)) → w3.cell? ⟨w1.heap.size, 0, none⟩ = some (.int .i64 y.d) ∧ w3.cell? ⟨w1.heap.size, 1, none⟩ = some (.int .i64 y.p) ∧ w3.cell? ⟨w1.heap.size, 2, none⟩ = some (.int .u64 (y.dr : Int)) ∧ w3.cell? ⟨w1.heap.size, 3, none⟩ = some (.int .i64 y.n) ∧ w3.cell? ⟨w1.heap.size, 4, none⟩ = some (.slice ca y.code.length cc) ∧ w3.cell? ⟨w1.heap.size, 5, none⟩ = some (.int .u64 (y.bu : Int)) ∧ w3.cell? ⟨w1.heap.size, 6, none⟩ = some (.int .u64 (y.pe : Int)) ∧ w3.cell? ⟨w1.heap.size, 7, none⟩ = some (.int .i64 y.pr) ∧ w3.cell? ⟨w1.heap.size, 8, none⟩ = some (.int .u8 (y.lv : Int)) ∧ w3.cell? ⟨w1.heap.size, 9, none⟩ = some (.int .i64 y.sv)) := by
            intro w3 hg
            have hne : Value.ownBlock (.slice va vl vc) ≠ some w1.heap.size := fun q => by
              have q1 := (HRW.out.row.lt _ q).2
              omega
            have hlt : w1.heap.size < (w2.alloc (.cells #[.int .i64 y.d, .int .i64 y.p, .int .u64 (y.dr : Int), .int .i64 y.n, .slice ca y.code.length cc, .int .u64 (y.bu : Int), .int .u64 (y.pe : Int), .int .i64 y.pr, .int .u8 (y.lv : Int), .int .i64 y.sv] 36)).drew.heap.size := by have := HBX.out.lt; simp; omega
            have hc := fun (i : Nat) => World.cell?_of_block (a := ⟨w1.heap.size, i, none⟩) (hg.block w1.heap.size hlt (fun q => hne q.symm))
            exact ⟨(hc 0).trans k0, (hc 1).trans k1, (hc 2).trans k2, (hc 3).trans k3, (hc 4).trans k4, (hc 5).trans k5, (hc 6).trans k6, (hc 7).trans k7, (hc 8).trans k8, (hc 9).trans k9⟩
          by_cases hcS : c = S
          · subst hcS
            refine wp_region_held_drew (S := (fun W => W.cell? ⟨w1.heap.size, 0, none⟩ = some (.int .i64 y.d) ∧ W.cell? ⟨w1.heap.size, 1, none⟩ = some (.int .i64 y.p) ∧ W.cell? ⟨w1.heap.size, 2, none⟩ = some (.int .u64 (y.dr : Int)) ∧ W.cell? ⟨w1.heap.size, 3, none⟩ = some (.int .i64 y.n) ∧ W.cell? ⟨w1.heap.size, 4, none⟩ = some (.slice ca y.code.length cc) ∧ W.cell? ⟨w1.heap.size, 5, none⟩ = some (.int .u64 (y.bu : Int)) ∧ W.cell? ⟨w1.heap.size, 6, none⟩ = some (.int .u64 (y.pe : Int)) ∧ W.cell? ⟨w1.heap.size, 7, none⟩ = some (.int .i64 y.pr) ∧ W.cell? ⟨w1.heap.size, 8, none⟩ = some (.int .u8 (y.lv : Int)) ∧ W.cell? ⟨w1.heap.size, 9, none⟩ = some (.int .i64 y.sv))) (by kernel_rfl) ⟨z0, z1, z2, z3, z4, z5, z6, z7, z8, z9⟩ (fun hHeld => ?_)
            refine wpAnyH_take (i := 0) (v := ?_) rfl (by kernel_rfl) (by kernel_rfl) (by kernel_rfl) (fun _ _ _ h => h) (Or.inl ⟨by rfl, ?v0⟩) (by assumption) ?_
            case v0 => (intro w hSw; (try dsimp only at hSw); go_simp; try with_reducible rfl)
            try simp only [Act.put, List.setIfInBounds_toArray, List.set_cons_zero, List.set_cons_succ, List.getElem_toArray, List.getElem_cons_zero]
            refine wpAnyH_take (i := 1) (v := ?_) rfl (by kernel_rfl) (by kernel_rfl) (by kernel_rfl) (fun _ _ _ h => h) (Or.inl ⟨by rfl, ?v1⟩) (by assumption) ?_
            case v1 => (intro w hSw; (try dsimp only at hSw); go_simp; try with_reducible rfl)
            try simp only [Act.put, List.setIfInBounds_toArray, List.set_cons_zero, List.set_cons_succ, List.getElem_toArray, List.getElem_cons_succ, List.getElem_cons_zero]
            refine wpAnyH_take (i := 4) (v := ?_) rfl (by kernel_rfl) (by kernel_rfl) (by kernel_rfl) (fun _ _ _ h => h) (Or.inl ⟨by rfl, ?v4⟩) (by assumption) ?_
            case v4 => (intro w hSw; (try dsimp only at hSw); go_simp; try with_reducible rfl)
            try simp only [Act.put, List.setIfInBounds_toArray, List.set_cons_zero, List.set_cons_succ, List.getElem_toArray, List.getElem_cons_succ, List.getElem_cons_zero]
            refine wpAnyH_take (i := 5) (v := ?_) rfl (by kernel_rfl) (by kernel_rfl) (by kernel_rfl) (fun _ _ _ h => h) (Or.inl ⟨by rfl, ?v5⟩) (by assumption) ?_
            case v5 => (intro w hSw; (try dsimp only at hSw); go_simp; try with_reducible rfl)
            try simp only [Act.put, List.setIfInBounds_toArray, List.set_cons_zero, List.set_cons_succ, List.getElem_toArray, List.getElem_cons_succ, List.getElem_cons_zero]
            refine wpAnyH_take (i := 6) (v := ?_) rfl (by kernel_rfl) (by kernel_rfl) (by kernel_rfl) (fun _ _ _ h => h) (Or.inl ⟨by rfl, ?v6⟩) (by assumption) ?_
            case v6 => (intro w hSw; (try dsimp only at hSw); go_simp; try with_reducible rfl)
            try simp only [Act.put, List.setIfInBounds_toArray, List.set_cons_zero, List.set_cons_succ, List.getElem_toArray, List.getElem_cons_succ, List.getElem_cons_zero]
            refine wpAnyH_ready (rs := [2]) (by kernel_rfl) (by simp) ?_
            refine AllReadyH.cons rfl (fun K hK => ?_) AllReadyH.nil
            go_simp
            refine hK.out _ _ ?_ (fun hHeld => ?_)
            · exact ⟨k0, k1, k2, k3, k4, k5, k6, k7, k8, k9⟩
            clear hK K
            try simp only [Act.put, List.setIfInBounds_toArray, List.set_cons_zero, List.set_cons_succ, List.getElem_toArray, List.getElem_cons_succ, List.getElem_cons_zero]
            refine wpAnyH_ready (rs := [3]) (by kernel_rfl) (by simp) ?_
            refine AllReadyH.cons rfl (fun K hK => ?_) AllReadyH.nil
            refine step_append_any _ (by rfl) _ _ _ (by rfl) w.heap.size 36 i0 _ 10 96 Try.underlying22 hi hz0 hz1 hz2 rfl (by omega) (.slice va vl vc) Z.length _ (by rfl) HRW3.out.row ⟨w2.heap.size, 0, none⟩ 1 1 (ec y ca cc) (by rfl) rfl HNW.out (ec_cell _ _ _) (by unfold maxLen; omega) (by omega) hs3 ?_
            intro v3 w3 ho3 hg3
            obtain ⟨va3, vl3, vc3, rfl⟩ := row_slice ho3
            have HRW4 := veil (HRW3.out.snoc (by decide) y ca cc HCR3.out HON.out.2.2.2.2 HON.out.2.2.2.1 ho3 hg3)
            have HBW4 := veil (HBW3.out.grown hg3 hs3 (fun k hk => (HRW3.out.row.lt k hk).1))
            have k' := HKB.out _ hg3
            clear ho3 hg3
            refine hK.out _ _ ?_ (fun hHeld => ?_)
            · exact k'
            clear hK K
            try simp only [Act.put, List.setIfInBounds_toArray, List.set_cons_zero, List.set_cons_succ, List.getElem_toArray, List.getElem_cons_succ, List.getElem_cons_zero]
            refine wpAnyH_take (i := 7) (v := ?_) rfl (by kernel_rfl) (by kernel_rfl) (by kernel_rfl) (fun _ _ _ h => h) (Or.inl ⟨by rfl, ?v7⟩) (by assumption) ?_
            case v7 => (intro w hSw; (try dsimp only at hSw); go_simp; try with_reducible rfl)
            try simp only [Act.put, List.setIfInBounds_toArray, List.set_cons_zero, List.set_cons_succ, List.getElem_toArray, List.getElem_cons_succ, List.getElem_cons_zero]
            refine wpAnyH_take (i := 8) (v := ?_) rfl (by kernel_rfl) (by kernel_rfl) (by kernel_rfl) (fun _ _ _ h => h) (Or.inl ⟨by rfl, ?v8⟩) (by assumption) ?_
            case v8 => (intro w hSw; (try dsimp only at hSw); go_simp; try with_reducible rfl)
            try simp only [Act.put, List.setIfInBounds_toArray, List.set_cons_zero, List.getElem_toArray, List.getElem_cons_succ, List.getElem_cons_zero]
            refine wpAnyH_done (by kernel_rfl) ?_ _
            skip
            go_wp2
            refine ⟨⟨Z ++ [(y, ca, cc)], k + c, ⟨lb, off + k, none⟩, by rw [List.map_append]; exact HON.out.1, HON.out.2.2.1, by rw [List.map_append]; exact HON.out.2.1, fun q => absurd rfl (HKS.out q), ?_, HRW4.out, HBW4.out, by rw [List.length_append]; exact HE1.out.2.2.2.1⟩, HE1.out.2.2.2.2⟩
            have q1 := HE1.out.1
            have q2 := HE1.out.2.1
            rw [Nat.sub_self] at q2
            rw [← q1, ← q2]
          · have hcS' : ¬ (c : Int) = (S : Int) := by omega
            refine wp_region_held_drew (S := (fun W => W.cell? ⟨w1.heap.size, 0, none⟩ = some (.int .i64 y.d) ∧ W.cell? ⟨w1.heap.size, 1, none⟩ = some (.int .i64 y.p) ∧ W.cell? ⟨w1.heap.size, 2, none⟩ = some (.int .u64 (y.dr : Int)) ∧ W.cell? ⟨w1.heap.size, 3, none⟩ = some (.int .i64 y.n) ∧ W.cell? ⟨w1.heap.size, 4, none⟩ = some (.slice ca y.code.length cc) ∧ W.cell? ⟨w1.heap.size, 5, none⟩ = some (.int .u64 (y.bu : Int)) ∧ W.cell? ⟨w1.heap.size, 6, none⟩ = some (.int .u64 (y.pe : Int)) ∧ W.cell? ⟨w1.heap.size, 7, none⟩ = some (.int .i64 y.pr) ∧ W.cell? ⟨w1.heap.size, 8, none⟩ = some (.int .u8 (y.lv : Int)) ∧ W.cell? ⟨w1.heap.size, 9, none⟩ = some (.int .i64 y.sv))) (by kernel_rfl) ⟨z0, z1, z2, z3, z4, z5, z6, z7, z8, z9⟩ (fun hHeld => ?_)
            refine wpAnyH_take (i := 0) (v := ?_) rfl (by kernel_rfl) (by kernel_rfl) (by kernel_rfl) (fun _ _ _ h => h) (Or.inl ⟨by rfl, ?v0⟩) (by assumption) ?_
            case v0 => (intro w hSw; (try dsimp only at hSw); go_simp; try with_reducible rfl)
            try simp only [Act.put, List.setIfInBounds_toArray, List.set_cons_zero, List.set_cons_succ, List.getElem_toArray, List.getElem_cons_zero]
            refine wpAnyH_take (i := 1) (v := ?_) rfl (by kernel_rfl) (by kernel_rfl) (by kernel_rfl) (fun _ _ _ h => h) (Or.inl ⟨by rfl, ?v1⟩) (by assumption) ?_
            case v1 => (intro w hSw; (try dsimp only at hSw); go_simp; try with_reducible rfl)
            try simp only [Act.put, List.setIfInBounds_toArray, List.set_cons_zero, List.set_cons_succ, List.getElem_toArray, List.getElem_cons_succ, List.getElem_cons_zero]
            refine wpAnyH_take (i := 4) (v := ?_) rfl (by kernel_rfl) (by kernel_rfl) (by kernel_rfl) (fun _ _ _ h => h) (Or.inl ⟨by rfl, ?v4⟩) (by assumption) ?_
            case v4 => (intro w hSw; (try dsimp only at hSw); go_simp; try with_reducible rfl)
            try simp only [Act.put, List.setIfInBounds_toArray, List.set_cons_zero, List.set_cons_succ, List.getElem_toArray, List.getElem_cons_succ, List.getElem_cons_zero]
            refine wpAnyH_take (i := 5) (v := ?_) rfl (by kernel_rfl) (by kernel_rfl) (by kernel_rfl) (fun _ _ _ h => h) (Or.inl ⟨by rfl, ?v5⟩) (by assumption) ?_
            case v5 => (intro w hSw; (try dsimp only at hSw); go_simp; try with_reducible rfl)
            try simp only [Act.put, List.setIfInBounds_toArray, List.set_cons_zero, List.set_cons_succ, List.getElem_toArray, List.getElem_cons_succ, List.getElem_cons_zero]
            refine wpAnyH_take (i := 6) (v := ?_) rfl (by kernel_rfl) (by kernel_rfl) (by kernel_rfl) (fun _ _ _ h => h) (Or.inl ⟨by rfl, ?v6⟩) (by assumption) ?_
            case v6 => (intro w hSw; (try dsimp only at hSw); go_simp; try with_reducible rfl)
            try simp only [Act.put, List.setIfInBounds_toArray, List.set_cons_zero, List.set_cons_succ, List.getElem_toArray, List.getElem_cons_succ, List.getElem_cons_zero]
            refine wpAnyH_ready (rs := [2]) (by kernel_rfl) (by simp) ?_
            refine AllReadyH.cons rfl (fun K hK => ?_) AllReadyH.nil
            go_simp
            refine hK.out _ _ ?_ (fun hHeld => ?_)
            · exact ⟨k0, k1, k2, k3, k4, k5, k6, k7, k8, k9⟩
            clear hK K
            try simp only [Act.put, List.setIfInBounds_toArray, List.set_cons_zero, List.set_cons_succ, List.getElem_toArray, List.getElem_cons_succ, List.getElem_cons_zero]
            refine wpAnyH_ready (rs := [3]) (by kernel_rfl) (by simp) ?_
            refine AllReadyH.cons rfl (fun K hK => ?_) AllReadyH.nil
            refine step_append_any _ (by rfl) _ _ _ (by rfl) w.heap.size 36 i0 _ 10 96 Try.underlying22 hi hz0 hz1 hz2 rfl (by omega) (.slice va vl vc) Z.length _ (by rfl) HRW3.out.row ⟨w2.heap.size, 0, none⟩ 1 1 (ec y ca cc) (by rfl) rfl HNW.out (ec_cell _ _ _) (by unfold maxLen; omega) (by omega) hs3 ?_
            intro v3 w3 ho3 hg3
            obtain ⟨va3, vl3, vc3, rfl⟩ := row_slice ho3
            have HRW4 := veil (HRW3.out.snoc (by decide) y ca cc HCR3.out HON.out.2.2.2.2 HON.out.2.2.2.1 ho3 hg3)
            have HBW4 := veil (HBW3.out.grown hg3 hs3 (fun k hk => (HRW3.out.row.lt k hk).1))
            have k' := HKB.out _ hg3
            clear ho3 hg3
            refine hK.out _ _ ?_ (fun hHeld => ?_)
            · exact k'
            clear hK K
            try simp only [Act.put, List.setIfInBounds_toArray, List.set_cons_zero, List.set_cons_succ, List.getElem_toArray, List.getElem_cons_succ, List.getElem_cons_zero]
            refine wpAnyH_take (i := 7) (v := ?_) rfl (by kernel_rfl) (by kernel_rfl) (by kernel_rfl) (fun _ _ _ h => h) (Or.inl ⟨by rfl, ?v7⟩) (by assumption) ?_
            case v7 => (intro w hSw; (try dsimp only at hSw); go_simp; try with_reducible rfl)
            try simp only [Act.put, List.setIfInBounds_toArray, List.set_cons_zero, List.set_cons_succ, List.getElem_toArray, List.getElem_cons_succ, List.getElem_cons_zero]
            refine wpAnyH_take (i := 8) (v := ?_) rfl (by kernel_rfl) (by kernel_rfl) (by kernel_rfl) (fun _ _ _ h => h) (Or.inl ⟨by rfl, ?v8⟩) (by assumption) ?_
            case v8 => (intro w hSw; (try dsimp only at hSw); go_simp; try with_reducible rfl)
            try simp only [Act.put, List.setIfInBounds_toArray, List.set_cons_zero, List.getElem_toArray, List.getElem_cons_succ, List.getElem_cons_zero]
            refine wpAnyH_done (by kernel_rfl) ?_ _
            skip
            go_wp2
            refine ⟨⟨Z ++ [(y, ca, cc)], k + S, ⟨lb, off + k + S, none⟩, by rw [List.map_append]; exact HON.out.1, HON.out.2.2.1, by rw [List.map_append]; exact HON.out.2.1, fun _ => by rw [Nat.add_assoc], ?_, HRW4.out, HBW4.out, by rw [List.length_append]; exact HE1.out.2.2.2.1⟩, HE1.out.2.2.2.2⟩
            have q1 := HE1.out.1
            have q2 := HE1.out.2.1
            rw [← q1, ← q2]
        · have HRT := veil (fun W ca cc (h : Cod W ca y.code) => right_no' W y ca cc h hys hrt)
          have HBAD : Hid (Bad l0 (Z.map (·.1))) := ⟨hRt, l0.drop k, by intro q; rw [q] at hlen; simp at hlen; omega, no_wrong hle (hy ▸ hrt), hl0⟩
          have HBW := veil hbel
          have HVL : Hid (vl = (Z.map (·.1)).length) := by rw [List.length_map]; exact HV.out
          clear hRt hl0 hba hRw hbel hBr hsm hsh hrt hy htl hle
          generalize sz (l0.drop k) = S at *
          generalize l0.length - k = n at *
          generalize cap - k = c at *
          go_wp2_with (first
            | (go_at_call 14; refine (HRT.out _ _ _ HCD.out).mono ?_; rintro e w2 ⟨rfl, hb⟩; have HBW2 := veil (HBW1.out.trans (hb.mono hs1)); clear hb)
            | (go_at_call 29; refine (HRD.out).mono ?_; rintro e w1 ⟨ca, cc, rfl, hcr, hb⟩; have hal := (Below.refl w1.heap.size w1).alloc (Nat.le_refl _) (.cells #[.int .i64 y.d, .int .i64 y.p, .int .u64 (y.dr : Int), .int .i64 y.n, .slice ca y.code.length cc, .int .u64 (y.bu : Int), .int .u64 (y.pe : Int), .int .i64 y.pr, .int .u8 (y.lv : Int), .int .i64 y.sv] 36); have HCD := veil (cod_of_row (hcr.below hal)); have HBW1 := veil ((HBW.out.trans (hb.mono hsz)).trans (hal.mono (by have := hb.size; omega))); have hs1 := HBW1.out.size; clear hb hcr hal)
            | (go_at_call 28; refine (HLN.out).mono ?_; rintro e w1 ⟨rfl, hw⟩; replace hw := hw.symm; subst hw))
          go_step3
          exact ⟨rfl, Z.map (·.1), vl, va, vc, _, _, _, _, _, _, _, _, _, _, _, _, _, _, _, _, _, _, _, _, _, _, _, _, _, _, _, _, _, _, _, _, _, rfl, HVL.out, HBAD.out, HBW2.out⟩
    · have hkl' : l0.length - k = 0 := by omega
      rw [hkl']
      have HG : Hid (Good l0 (Z.map (·.1))) := by
        refine ⟨hRt, ?_⟩
        have q : l0.drop k = [] := List.drop_eq_nil_of_le (by omega)
        rw [q, List.append_nil] at hl0
        exact hl0
      have HRW := veil hRw
      have HBW := veil hbel
      clear hRt hl0 hba hRw hbel hkl' hkl
      go_wp2
      simp only [Exit.jump]
      go_ret3
      exact ⟨HBW.out, .inl ⟨Z, _, HG.out, rfl, HRW.out⟩⟩
end Go.Proofs.Ytnnpbbiiapipaaa
