/-
  ScriptWhere walked.
-/
import Derived.Test.YtnnpbbiiapipaaaS16
import Derived.Deep.DeepCutAuto
namespace Go.Proofs.Ytnnpbbiiapipaaa
open Go.RowKit Go.Lib
set_option linter.unusedVariables false
theorem Ens.wf {w : World} {a : Option Addr} {L : List En} (h : Ens w a L) : ∀ x ∈ L, WfE x := by
  intro x hx
  rcases h with rfl | ⟨lb, off, _, _, hc⟩
  · cases hx
  · obtain ⟨j, hj⟩ := List.getElem?_of_mem hx
    obtain ⟨ca, cc, he⟩ := hc j x hj
    exact he.wf
theorem noE_junk {b : Nat} (h : ¬ (1 ≤ b ∧ b ≤ 5)) : NoE [b] := by
  intro x t hx hw q
  have h1 := bytes_first hx t
  rw [← q] at h1
  exact h h1
theorem cell_one_at (w : World) (v : Value) (t : TypeId) : ∀ j u, [v][j]? = some u → (w.alloc (.cells #[v] t)).cell? ((⟨w.heap.size, 0, none⟩ : Addr).add j) = some u := cell_one_new w v t
/-- What a row's bytes are, behind one more block. -/
theorem row_cells_alloc {w : World} {base g : Nat} {v : Value} {n : Nat} {xs : List Value} (h : w.ownsRow base 5 1 v n xs) (hg : v.ownBlock = some g) (o : Obj) : ∀ j u, xs[j]? = some u → (w.alloc o).cell? ((⟨g, 0, none⟩ : Addr).add j) = some u := (World.ownsRow.alloc h o).cells hg
set_option maxHeartbeats 4000000 in
theorem where_walk (w : World) (a : Option Addr) (L : List En) (cap : Nat) (hL : L.length < 9223372036854775808) (hE : Ens w a L) (b : Nat) (hb : b < 256) :
    Calls Try.prog 7 #[.slice a L.length cap, .int .u8 (b : Int)] w fun e w' => e = .returned (.bool true) ∧ Below w.heap.size w w' := by
  obtain ⟨i0, hi, hz0, hz1, hz2⟩ := info_parts info_u8
  have HF := veil (few_ok' w a L cap hL hE)
  have HV := veil live_ok'
  have h60 := fewE_length L
  clear hE hL
  generalize fewE L = M at *
  by_cases hall : ∀ x ∈ M, RightE x
  · have HEN := veil (fun W a c (h : Ens W a M) => (encodes W a M c (by omega) h).mono (fun e w' h => h.yes hall))
    by_cases hj : 1 ≤ b ∧ b ≤ 5
    · have hj1 : 1 ≤ (b : Int) := by omega
      have hj2 : (b : Int) ≤ 5 := by omega
      clear hall
      go_enter Try.func7, Try.ntmps7
      go_wp2_with (first
        | (go_at_call 10; refine (HF.out).mono ?_; rintro e w1 ⟨a1, c1, rfl, hen, hb1⟩; have HE1 := veil hen; have HB1 := veil hb1; clear hen hb1)
        | (go_at_call 11; refine (HEN.out _ _ _ HE1.out).mono ?_; rintro e w2 ⟨v2, rfl, ho2, hb2⟩; have HB2 := veil (HB1.out.trans (hb2.mono HB1.out.size)); clear ho2 hb2)
        | (go_at_call 17; refine (HV.out _).mono ?_; rintro e w3 ⟨rfl, hb3⟩; have HB3 := veil (HB2.out.trans (hb3.mono HB2.out.size)); clear hb3))
      go_ret
      exact ⟨rfl, HB3.out⟩
    · have HBAD : Hid (∀ W a, Ens W a M → Bad (all M ++ [b]) M) := fun W a h => ⟨fun x hx => ⟨hall x hx, h.wf x hx⟩, [b], by simp, noE_junk hj, rfl⟩
      have HSM : Hid (∀ W a, Ens W a M → ∀ y ∈ all M ++ [b], y < 256) := fun W a h y hy => by
        rcases List.mem_append.1 hy with hy | hy
        · exact all_small (fun x hx => ⟨hall x hx, h.wf x hx⟩) y hy
        · obtain rfl : y = b := by simpa using hy
          exact hb
      have hlen : (all M).length < 16000 := by
        have := all_le M hall
        omega
      have HDC : Hid (∀ (W W0 : World) a0 base v, Ens W0 a0 M → W.ownsRow base 5 1 v (all M ++ [b]).length (u8s (all M ++ [b])) → Calls Try.prog 18 #[v] W fun e w' => e = .returned (.tuple #[.slice none 0 0, .int .i64 3, .int .i64 (M.length : Int)]) ∧ Below W.heap.size W w') :=
        fun W W0 a0 base v h ho => (dec_row W base v _ ho (HSM.out _ _ h) (by rw [List.length_append]; simp; omega)).mono (fun e w' q => q.bad (HBAD.out _ _ h))
      have hjI : ((b : Int) < 1 ∨ 5 < (b : Int)) := by omega
      have HUE : Hid (u8s (all M) ++ [.int .u8 (b : Int)] = u8s (all M ++ [b])) := by show _ = _; rw [u8s_append]; rfl
      have HLE : Hid ((u8s (all M)).length = (all M).length * 1) := by show _ = _; rw [u8s_length, Nat.mul_one]
      clear hall hj
      rcases hjI with hjI | hjI
      · go_enter Try.func7, Try.ntmps7
        go_upto_region 5 with (first
        | (go_at_call 11; refine (HEN.out _ _ _ HE1.out).mono ?_; rintro e w2 ⟨v2, rfl, ho2, hb2⟩; have HB2 := veil (HB1.out.trans (hb2.mono HB1.out.size)); have hs2 := HB2.out.size; have HO2 := veil ho2; clear ho2 hb2)
        | (go_at_call 10; refine (HF.out).mono ?_; rintro e w1 ⟨a1, c1, rfl, hen, hb1⟩; have HE1 := veil hen; have HB1 := veil hb1; clear hen hb1))
        rcases HO2.out.2 with ⟨rfl, h0⟩ | ⟨g2, cap2, cur2, rfl, _⟩
        · have HO3 := veil (own_eq (lit_none w2 5) (show 0 = 0 + (all M).length by omega) (show [] = [] ++ u8s (all M) by rw [List.length_eq_zero_iff.1 h0]; rfl))
          have HB3 := veil (HB2.out.alloc hs2 (.cells #[] 5))
          go_wp2_with (first
            | (go_at_call 17; refine (HV.out _).mono ?_; rintro e w6 ⟨rfl, hb6⟩; have HB6 := veil (HB5.out.trans (hb6.mono HB5.out.size)); clear hb6)
            | (go_at_call 18; refine (HDC.out _ _ _ _ _ HE1.out (own_eq HO4.out (by simp) (by simpa using HUE.out))).mono ?_; rintro e w5 ⟨rfl, hb5⟩; have HB5 := veil (HB4.out.trans (hb5.mono HB4.out.size)); clear hb5)
            | (at_builtin; refine wpList_append_own _ rfl _ _ 24 rfl w2.heap.size 5 i0 (.int .u8 0) 1 1 Try.underlying24 hi hz0 hz1 hz2 rfl (by decide) _ _ _ rfl (World.ownsRow.alloc HO3.out _) ⟨w2.heap.size + 1, 0, none⟩ 1 1 [_] rfl rfl (cell_one_next _ _ _ _) (by simp [Value.oneCell']) (by unfold maxLen; omega) (by omega) (by simp; omega) ?_; intro v4 w4 ho4 hg4 _; have HO4 := veil ho4; have HB4 := veil ((HB3.out.alloc (by simp; omega) _).grown hg4 (by simp; omega) (fun k hk => (by have := (HO3.out.lt k hk).1; omega))); clear ho4 hg4))
          go_ret
          exact ⟨rfl, HB6.out⟩
        · have HN2 := veil (row_cells_alloc HO2.out (g := g2) rfl (.cells #[] 5))
          go_wp2_with (first
            | (go_at_call 17; refine (HV.out _).mono ?_; rintro e w6 ⟨rfl, hb6⟩; have HB6 := veil (HB5.out.trans (hb6.mono HB5.out.size)); clear hb6)
            | (go_at_call 18; refine (HDC.out _ _ _ _ _ HE1.out (own_eq HO4.out (by simp) (by simpa using HUE.out))).mono ?_; rintro e w5 ⟨rfl, hb5⟩; have HB5 := veil (HB4.out.trans (hb5.mono HB4.out.size)); clear hb5)
            | (at_builtin; refine wpList_append_own _ rfl _ _ 24 rfl w2.heap.size 5 i0 (.int .u8 0) 1 1 Try.underlying24 hi hz0 hz1 hz2 rfl (by decide) _ _ _ rfl (World.ownsRow.alloc HO3.out _) ⟨w3.heap.size, 0, none⟩ 1 1 [_] rfl rfl (cell_one_new _ _ _) (by simp [Value.oneCell']) (by unfold maxLen; omega) (by omega) (by simp; omega) ?_; intro v4 w4 ho4 hg4 _; have HO4 := veil ho4; have HB4 := veil ((HB3.out.alloc (by omega) _).grown hg4 (by simp; omega) (fun k hk => (by have := (HO3.out.lt k hk).1; omega))); clear ho4 hg4)
            | (at_builtin; (refine wpList_append_own _ rfl _ _ 24 rfl w2.heap.size 5 i0 (.int .u8 0) 1 1 Try.underlying24 hi hz0 hz1 hz2 rfl (by decide) (.slice (some ⟨w2.heap.size, 0, none⟩) 0 0) 0 [] rfl (lit_none w2 _) ⟨g2, 0, none⟩ (all M).length cap2 (u8s (all M)) rfl HLE.out HN2.out (u8s_one _) (by unfold maxLen; omega) (by omega) (by simp) ?_); intro v3 w3 ho3 hg3 _; have HO3 := veil ho3; have HB3 := veil (((HB2.out.alloc hs2 _).grown hg3 (by simp; omega) (fun k hk => (by simp [Value.ownBlock] at hk; omega)))); have hs3 : w2.heap.size ≤ w3.heap.size := (by have := hg3.size; simp at this; omega); clear ho3 hg3))
          go_ret
          exact ⟨rfl, HB6.out⟩
      · go_enter Try.func7, Try.ntmps7
        go_upto_region 5 with (first
        | (go_at_call 11; refine (HEN.out _ _ _ HE1.out).mono ?_; rintro e w2 ⟨v2, rfl, ho2, hb2⟩; have HB2 := veil (HB1.out.trans (hb2.mono HB1.out.size)); have hs2 := HB2.out.size; have HO2 := veil ho2; clear ho2 hb2)
        | (go_at_call 10; refine (HF.out).mono ?_; rintro e w1 ⟨a1, c1, rfl, hen, hb1⟩; have HE1 := veil hen; have HB1 := veil hb1; clear hen hb1))
        rcases HO2.out.2 with ⟨rfl, h0⟩ | ⟨g2, cap2, cur2, rfl, _⟩
        · have HO3 := veil (own_eq (lit_none w2 5) (show 0 = 0 + (all M).length by omega) (show [] = [] ++ u8s (all M) by rw [List.length_eq_zero_iff.1 h0]; rfl))
          have HB3 := veil (HB2.out.alloc hs2 (.cells #[] 5))
          go_wp2_with (first
            | (go_at_call 17; refine (HV.out _).mono ?_; rintro e w6 ⟨rfl, hb6⟩; have HB6 := veil (HB5.out.trans (hb6.mono HB5.out.size)); clear hb6)
            | (go_at_call 18; refine (HDC.out _ _ _ _ _ HE1.out (own_eq HO4.out (by simp) (by simpa using HUE.out))).mono ?_; rintro e w5 ⟨rfl, hb5⟩; have HB5 := veil (HB4.out.trans (hb5.mono HB4.out.size)); clear hb5)
            | (at_builtin; refine wpList_append_own _ rfl _ _ 24 rfl w2.heap.size 5 i0 (.int .u8 0) 1 1 Try.underlying24 hi hz0 hz1 hz2 rfl (by decide) _ _ _ rfl (World.ownsRow.alloc HO3.out _) ⟨w2.heap.size + 1, 0, none⟩ 1 1 [_] rfl rfl (cell_one_next _ _ _ _) (by simp [Value.oneCell']) (by unfold maxLen; omega) (by omega) (by simp; omega) ?_; intro v4 w4 ho4 hg4 _; have HO4 := veil ho4; have HB4 := veil ((HB3.out.alloc (by simp; omega) _).grown hg4 (by simp; omega) (fun k hk => (by have := (HO3.out.lt k hk).1; omega))); clear ho4 hg4))
          go_ret
          exact ⟨rfl, HB6.out⟩
        · have HN2 := veil (row_cells_alloc HO2.out (g := g2) rfl (.cells #[] 5))
          go_wp2_with (first
            | (go_at_call 17; refine (HV.out _).mono ?_; rintro e w6 ⟨rfl, hb6⟩; have HB6 := veil (HB5.out.trans (hb6.mono HB5.out.size)); clear hb6)
            | (go_at_call 18; refine (HDC.out _ _ _ _ _ HE1.out (own_eq HO4.out (by simp) (by simpa using HUE.out))).mono ?_; rintro e w5 ⟨rfl, hb5⟩; have HB5 := veil (HB4.out.trans (hb5.mono HB4.out.size)); clear hb5)
            | (at_builtin; refine wpList_append_own _ rfl _ _ 24 rfl w2.heap.size 5 i0 (.int .u8 0) 1 1 Try.underlying24 hi hz0 hz1 hz2 rfl (by decide) _ _ _ rfl (World.ownsRow.alloc HO3.out _) ⟨w3.heap.size, 0, none⟩ 1 1 [_] rfl rfl (cell_one_new _ _ _) (by simp [Value.oneCell']) (by unfold maxLen; omega) (by omega) (by simp; omega) ?_; intro v4 w4 ho4 hg4 _; have HO4 := veil ho4; have HB4 := veil ((HB3.out.alloc (by omega) _).grown hg4 (by simp; omega) (fun k hk => (by have := (HO3.out.lt k hk).1; omega))); clear ho4 hg4)
            | (at_builtin; (refine wpList_append_own _ rfl _ _ 24 rfl w2.heap.size 5 i0 (.int .u8 0) 1 1 Try.underlying24 hi hz0 hz1 hz2 rfl (by decide) (.slice (some ⟨w2.heap.size, 0, none⟩) 0 0) 0 [] rfl (lit_none w2 _) ⟨g2, 0, none⟩ (all M).length cap2 (u8s (all M)) rfl HLE.out HN2.out (u8s_one _) (by unfold maxLen; omega) (by omega) (by simp) ?_); intro v3 w3 ho3 hg3 _; have HO3 := veil ho3; have HB3 := veil (((HB2.out.alloc hs2 _).grown hg3 (by simp; omega) (fun k hk => (by simp [Value.ownBlock] at hk; omega)))); have hs3 : w2.heap.size ≤ w3.heap.size := (by have := hg3.size; simp at this; omega); clear ho3 hg3))
          go_ret
          exact ⟨rfl, HB6.out⟩
  · have HEN := veil (fun W a c (h : Ens W a M) => (encodes W a M c (by omega) h).mono (fun e w' h => h.no hall))
    clear hall
    go_enter Try.func7, Try.ntmps7
    go_wp2_with (first
      | (go_at_call 10; refine (HF.out).mono ?_; rintro e w1 ⟨a1, c1, rfl, hen, hb1⟩; have HE1 := veil hen; have HB1 := veil hb1; clear hen hb1)
      | (go_at_call 11; refine (HEN.out _ _ _ HE1.out).mono ?_; rintro e w2 ⟨rfl, hb2⟩; have HB2 := veil (HB1.out.trans (hb2.mono HB1.out.size)); clear hb2)
      | (go_at_call 17; refine (HV.out _).mono ?_; rintro e w3 ⟨rfl, hb3⟩; have HB3 := veil (HB2.out.trans (hb3.mono HB2.out.size)); clear hb3))
    go_ret
    exact ⟨rfl, HB3.out⟩
end Go.Proofs.Ytnnpbbiiapipaaa
