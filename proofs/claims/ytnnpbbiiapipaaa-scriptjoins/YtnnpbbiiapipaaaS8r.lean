/-
  script: the document's Encode walked.
-/
import Derived.Test.YtnnpbbiiapipaaaS7r
namespace Go.Proofs.Ytnnpbbiiapipaaa
open Go.RowKit Go.Lib
set_option linter.unusedVariables false
theorem rright_yes' (w : World) (x : En) (a : Option Addr) (ca : Nat) (hc : Cod w a x.code) (hl : x.code.length < 9223372036854775808) (hr : RightE x) :
    Calls Try.prog 15 #[.agg #[.int .i64 x.d, .int .i64 x.p, .int .u64 (x.dr : Int), .int .i64 x.n, .slice a x.code.length ca, .int .u64 (x.bu : Int), .int .u64 (x.pe : Int), .int .i64 x.pr, .int .u8 (x.lv : Int), .int .i64 x.sv]] w fun e w' => e = .returned (.bool true) ∧ Below w.heap.size w w' := (rright_ok' w x a ca hc hl).mono fun e w' ⟨B, he, hB, hb⟩ => by
  obtain rfl : B = true := hB.2 hr
  exact ⟨he, hb⟩
theorem rright_no' (w : World) (x : En) (a : Option Addr) (ca : Nat) (hc : Cod w a x.code) (hl : x.code.length < 9223372036854775808) (hr : ¬ RightE x) :
    Calls Try.prog 15 #[.agg #[.int .i64 x.d, .int .i64 x.p, .int .u64 (x.dr : Int), .int .i64 x.n, .slice a x.code.length ca, .int .u64 (x.bu : Int), .int .u64 (x.pe : Int), .int .i64 x.pr, .int .u8 (x.lv : Int), .int .i64 x.sv]] w fun e w' => e = .returned (.bool false) ∧ Below w.heap.size w w' := (rright_ok' w x a ca hc hl).mono fun e w' ⟨B, he, hB, hb⟩ => by
  obtain rfl : B = false := by
    cases B
    · rfl
    · exact absurd (hB.1 rfl) hr
  exact ⟨he, hb⟩
theorem one_at (W : World) (x : En) (a : Option Addr) (ca : Nat) (hr : RightE x) (hw : WfE x) (hc : Cod W a x.code) :
    Calls Try.prog 23 #[.agg #[.int .i64 x.d, .int .i64 x.p, .int .u64 (x.dr : Int), .int .i64 x.n, .slice a x.code.length ca, .int .u64 (x.bu : Int), .int .u64 (x.pe : Int), .int .i64 x.pr, .int .u8 (x.lv : Int), .int .i64 x.sv]] W fun e w' => ∃ g cap, e = .returned (.slice (some ⟨g, 0, none⟩) (bytes x).length cap) ∧ (∀ j u, (u8s (bytes x))[j]? = some u → w'.cell? ((⟨g, 0, none⟩ : Addr).add j) = some u) ∧ Below W.heap.size W w' :=
  (one_ok W x a ca hr hw hc).mono fun e w' ⟨v, he, ho, hb⟩ => by
    have := bytes_pos (x := x)
    rcases ho.2 with ⟨_, h0⟩ | ⟨g, cap, cur, rfl, _⟩
    · omega
    · exact ⟨g, cap, he, ho.cells rfl, hb⟩
set_option maxHeartbeats 2000000 in
theorem rencodes (w : World) (a : Option Addr) (L : List En) (cap : Nat) (hL : L.length ≤ 3000) (hE : Ens w a L) :
    Calls Try.prog 12 #[.slice a L.length cap] w (Encs w L) := by
  obtain ⟨i0, hi, hz0, hz1, hz2⟩ := info_parts info_u8
  have HE := veil hE
  clear hE
  go_enter Try.func12, Try.ntmps12
  go_wp2
  go_loopw [4, 5] (fun s i wr => ∃ (j : Nat), j ≤ L.length ∧ i = .int .i64 j ∧ (∀ x ∈ L.take j, RightE x) ∧ wr.ownsRow w.heap.size 5 1 s (all (L.take j)).length (u8s (all (L.take j))) ∧ Below w.heap.size w wr) (fun _ i _ => L.length - (intOf i).toNat)
  case atStart => exact ⟨0, by omega, rfl, by simp, World.ownsRow_nil _ _ _ _, Below.refl _ _⟩
  case round =>
    obtain ⟨j, hj, rfl, hall, hown, hbel⟩ := hrel
    by_cases hjl : j < L.length
    · have hjl' : (j : Int) < (L.length : Int) := by omega
      obtain ⟨x, hx⟩ : ∃ x, L[j]? = some x := ⟨L[j], List.getElem?_eq_getElem hjl⟩
      rcases HE.out with h0 | ⟨lb, off, rfl, hlb, hc⟩
      · subst h0; simp at hjl
      · obtain ⟨ca, cc, he0⟩ := hc j x hx
        have he := he0.below hlb hbel
        have y0 := he.c0
        have y1 := he.c1
        have y2 := he.c2
        have y3 := he.c3
        have y4 := he.c4
        have y5 := he.c5
        have y6 := he.c6
        have y7 := he.c7
        have y8 := he.c8
        have y9 := he.c9
        have HO := veil hown
        have HB := veil hbel
        have hsz := hbel.size
        have HN : Hid ((all (L.take j)).length < 900000) := by
          have q := all_le (L.take j) hall
          have q2 : (L.take j).length ≤ j := by simp; omega
          show _ < _
          omega
        have HTK := veil (take_one hx)
        have HEA := veil (fun W (hb : Below w.heap.size w W) => he0.below hlb hb)
        by_cases hrt : RightE x
        · have HR := veil (fun W hb => rright_yes' W x ca cc (he0.cod.below (w' := W) hb) he.len hrt)
          have HT := veil (fun W hb => one_at W x ca cc hrt he.wf (he0.cod.below (w' := W) hb))
          have hbl := bytes_le hrt
          have HALL : Hid (∀ y ∈ L.take (j + 1), RightE y) := by
            show ∀ y ∈ L.take (j + 1), RightE y
            rw [HTK.out]
            intro y hy
            rcases List.mem_append.1 hy with hy | hy
            · exact hall y hy
            · obtain rfl : y = x := by simpa using hy
              exact hrt
          have HLE : Hid ((u8s (bytes x)).length = (bytes x).length * 1) := by
            show _ = _
            rw [u8s_length, Nat.mul_one]
          have HNN : Hid ((all (L.take j)).length + (bytes x).length < 1000000) := by
            have := HN.out
            show _ < _
            omega
          clear hown hbel hall he he0 hc hx hrt hbl
          go_wp2_with (first
            | (at_builtin; refine wpList_append_own _ rfl _ _ 24 rfl w.heap.size 5 i0 (.int .u8 0) 1 1 Try.underlying24 hi hz0 hz1 hz2 rfl (by decide) _ _ _ rfl HO2.out ⟨g2, 0, none⟩ (bytes x).length c2 (u8s (bytes x)) rfl HLE.out HN2.out (u8s_one _) (by have := HNN.out; unfold maxLen; omega) (by have := HNN.out; omega) HB2.out.size ?_; intro v3 w3 ho3 hg3 _; have HO3 := veil ho3; have HB3 := veil (HB2.out.grown hg3 HB2.out.size (fun k hk => (HO2.out.lt k hk).1)); clear ho3 hg3)
            | (go_at_call 23; refine (HT.out _ HB1.out).mono ?_; rintro e w2 ⟨g2, c2, rfl, hn2, hb2⟩; have HN2 := veil hn2; have HO2 := veil (row_below HO1.out hb2); have HB2 := veil (HB1.out.trans (hb2.mono HB1.out.size)); clear hn2 hb2)
            | (go_at_call 15; refine (HR.out _ HB.out).mono ?_; rintro e w1 ⟨rfl, hb⟩; have HB1 := veil (HB.out.trans (hb.mono hsz)); have HO1 := veil (row_below HO.out hb); have he1 := HEA.out _ HB1.out; have z0 := he1.c0; have z1 := he1.c1; have z2 := he1.c2; have z3 := he1.c3; have z4 := he1.c4; have z5 := he1.c5; have z6 := he1.c6; have z7 := he1.c7; have z8 := he1.c8; have z9 := he1.c9; clear hb he1))
          refine ⟨⟨j + 1, by omega, by go_num, HALL.out, own_eq HO3.out ?_ ?_, HB3.out⟩, by simp [intOf]; omega⟩
          · rw [HTK.out, all_one, List.length_append]
          · rw [HTK.out, all_one, u8s_append]
        · have HR := veil (fun W hb => rright_no' W x ca cc (he0.cod.below (w' := W) hb) he.len hrt)
          have HALL : Hid (¬ ∀ y ∈ L, RightE y) := fun q => hrt (q x (List.mem_of_getElem? hx))
          clear hown hbel hall he he0 hc hx hrt
          go_wp2_with (go_at_call 15; refine (HR.out _ HB.out).mono ?_; rintro e w1 ⟨rfl, hb⟩; have HB1 := veil (HB.out.trans (hb.mono hsz)); clear hb)
          go_ret2
          exact ⟨HB1.out, .inr ⟨HALL.out, rfl⟩⟩
    · have hjl' : ¬ (j : Int) < (L.length : Int) := by omega
      have hj2 : j = L.length := by omega
      rw [hj2, List.take_length] at hall hown
      have HA := veil hall
      have HO := veil hown
      have HB := veil hbel
      clear hall hown hbel hj2
      go_wp2
      go_ret2
      exact ⟨HB.out, .inl ⟨HA.out, _, rfl, HO.out⟩⟩
end Go.Proofs.Ytnnpbbiiapipaaa
