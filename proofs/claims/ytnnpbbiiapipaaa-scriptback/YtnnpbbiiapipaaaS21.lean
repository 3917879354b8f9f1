/-
  ScriptDecodes walked.
-/
import Derived.Test.YtnnpbbiiapipaaaS22
import Derived.OrdersHeld
import Derived.Deep.DeepCutAuto
namespace Go.Proofs.Ytnnpbbiiapipaaa
open Go.RowKit Go.Lib
set_option linter.unusedVariables false
theorem good_or_bad : ∀ (n : Nat) (l : List Nat), l.length ≤ n → (∃ L, Good l L) ∨ ∃ L, Bad l L := by
  intro n
  induction n with
  | zero =>
    intro l hl
    have : l = [] := List.length_eq_zero_iff.1 (by omega)
    subst this
    exact .inl ⟨[], fun x hx => (by cases hx), rfl⟩
  | succ n ih =>
    intro l hl
    by_cases h0 : l = []
    · subst h0
      exact .inl ⟨[], fun x hx => (by cases hx), rfl⟩
    · by_cases hn : NoE l
      · exact .inr ⟨[], fun x hx => (by cases hx), l, h0, hn, rfl⟩
      · have : ∃ x t, RightE x ∧ WfE x ∧ l = bytes x ++ t := Classical.byContradiction fun hc => hn fun x t h1 h2 h3 => hc ⟨x, t, h1, h2, h3⟩
        obtain ⟨x, t, h1, h2, rfl⟩ := this
        have hp := bytes_pos (x := x)
        rcases ih t (by rw [List.length_append] at hl; omega) with ⟨L, hL, rfl⟩ | ⟨L, hL, r, hr, hnr, rfl⟩
        · refine .inl ⟨x :: L, fun y hy => ?_, rfl⟩
          rcases List.mem_cons.1 hy with rfl | hy
          · exact ⟨h1, h2⟩
          · exact hL y hy
        · refine .inr ⟨x :: L, fun y hy => ?_, r, hr, hnr, ?_⟩
          · rcases List.mem_cons.1 hy with rfl | hy
            · exact ⟨h1, h2⟩
            · exact hL y hy
          · rw [all_cons, List.append_assoc]
theorem all_ge : ∀ L : List En, L.length ≤ (all L).length
  | [] => by simp [all]
  | x :: L => by
    have h1 := bytes_pos (x := x)
    have h2 := all_ge L
    rw [all_cons, List.length_append, List.length_cons]
    omega
theorem good_le {l : List Nat} {L : List En} (h : Good l L) : L.length ≤ l.length := by rw [h.2]; exact all_ge L
theorem bad_le {l : List Nat} {L : List En} (h : Bad l L) : L.length ≤ l.length := by
  obtain ⟨_, r, _, _, rfl⟩ := h
  have := all_ge L
  rw [List.length_append]
  omega
theorem right_wf {x : En} (h : RightE x) : (Lit.int .i64 x.d).wf = true := by
  rcases h with ⟨e, _⟩ | ⟨e, _⟩ | ⟨e, _⟩ | e | ⟨e, _⟩ <;> rw [show x.d = _ from congrArg En.d e] <;> rfl
theorem bytes_u8s (X : Nat → Nat) (n : Nat) : byteCells X n = u8s ((List.range n).map X) := by simp [byteCells, u8s]
theorem says_byt {w : World} {a : Option Addr} {len cap : Nat} {X : Nat → Nat} (h : Byt w a len X) : Says w (.slice a len cap) (strN ((List.range len).map X)) := by
  have := says_arg (cap := cap) h
  unfold strN
  rw [List.map_map]
  exact this
theorem Byt.cut {w : World} {a : Option Addr} {len m : Nat} {X : Nat → Nat} (h : Byt w a len X) (hm : m ≤ len) : Byt w a m X := by
  rcases h with h | ⟨lb, off, rfl, hlb, hc⟩
  · exact .inl (by omega)
  · exact .inr ⟨lb, off, rfl, hlb, fun j hj => hc j (by omega)⟩
theorem kpTwo {w W W1 : World} {k l o p : Nat} {v0 v1 v2 v3 v4 v5 v6 v7 v8 v9 u0 u1 u2 u3 u4 u5 u6 u7 u8 u9 : Value} (hb : Below W.heap.size W W1) (h : (W.cell? ⟨k, o, none⟩ = some (v0) ∧ W.cell? ⟨k, o + 1, none⟩ = some (v1) ∧ W.cell? ⟨k, o + 2, none⟩ = some (v2) ∧ W.cell? ⟨k, o + 3, none⟩ = some (v3) ∧ W.cell? ⟨k, o + 4, none⟩ = some (v4) ∧ W.cell? ⟨k, o + 5, none⟩ = some (v5) ∧ W.cell? ⟨k, o + 6, none⟩ = some (v6) ∧ W.cell? ⟨k, o + 7, none⟩ = some (v7) ∧ W.cell? ⟨k, o + 8, none⟩ = some (v8) ∧ W.cell? ⟨k, o + 9, none⟩ = some (v9)) ∧ (W.cell? ⟨l, p, none⟩ = some (u0) ∧ W.cell? ⟨l, p + 1, none⟩ = some (u1) ∧ W.cell? ⟨l, p + 2, none⟩ = some (u2) ∧ W.cell? ⟨l, p + 3, none⟩ = some (u3) ∧ W.cell? ⟨l, p + 4, none⟩ = some (u4) ∧ W.cell? ⟨l, p + 5, none⟩ = some (u5) ∧ W.cell? ⟨l, p + 6, none⟩ = some (u6) ∧ W.cell? ⟨l, p + 7, none⟩ = some (u7) ∧ W.cell? ⟨l, p + 8, none⟩ = some (u8) ∧ W.cell? ⟨l, p + 9, none⟩ = some (u9)) ∧ Below w.heap.size w W) : (W1.cell? ⟨k, o, none⟩ = some (v0) ∧ W1.cell? ⟨k, o + 1, none⟩ = some (v1) ∧ W1.cell? ⟨k, o + 2, none⟩ = some (v2) ∧ W1.cell? ⟨k, o + 3, none⟩ = some (v3) ∧ W1.cell? ⟨k, o + 4, none⟩ = some (v4) ∧ W1.cell? ⟨k, o + 5, none⟩ = some (v5) ∧ W1.cell? ⟨k, o + 6, none⟩ = some (v6) ∧ W1.cell? ⟨k, o + 7, none⟩ = some (v7) ∧ W1.cell? ⟨k, o + 8, none⟩ = some (v8) ∧ W1.cell? ⟨k, o + 9, none⟩ = some (v9)) ∧ (W1.cell? ⟨l, p, none⟩ = some (u0) ∧ W1.cell? ⟨l, p + 1, none⟩ = some (u1) ∧ W1.cell? ⟨l, p + 2, none⟩ = some (u2) ∧ W1.cell? ⟨l, p + 3, none⟩ = some (u3) ∧ W1.cell? ⟨l, p + 4, none⟩ = some (u4) ∧ W1.cell? ⟨l, p + 5, none⟩ = some (u5) ∧ W1.cell? ⟨l, p + 6, none⟩ = some (u6) ∧ W1.cell? ⟨l, p + 7, none⟩ = some (u7) ∧ W1.cell? ⟨l, p + 8, none⟩ = some (u8) ∧ W1.cell? ⟨l, p + 9, none⟩ = some (u9)) ∧ Below w.heap.size w W1 := by
  obtain ⟨⟨h0, h1, h2, h3, h4, h5, h6, h7, h8, h9⟩, ⟨g0, g1, g2, g3, g4, g5, g6, g7, g8, g9⟩, hB⟩ := h
  have hk := World.block_lt_of_cell? W _ h0
  have hl := World.block_lt_of_cell? W _ g0
  exact ⟨⟨(hb.cell (p := ⟨k, o + 0, none⟩) hk).trans h0, (hb.cell (p := ⟨k, o + 1, none⟩) hk).trans h1, (hb.cell (p := ⟨k, o + 2, none⟩) hk).trans h2, (hb.cell (p := ⟨k, o + 3, none⟩) hk).trans h3, (hb.cell (p := ⟨k, o + 4, none⟩) hk).trans h4, (hb.cell (p := ⟨k, o + 5, none⟩) hk).trans h5, (hb.cell (p := ⟨k, o + 6, none⟩) hk).trans h6, (hb.cell (p := ⟨k, o + 7, none⟩) hk).trans h7, (hb.cell (p := ⟨k, o + 8, none⟩) hk).trans h8, (hb.cell (p := ⟨k, o + 9, none⟩) hk).trans h9⟩, ⟨(hb.cell (p := ⟨l, p + 0, none⟩) hl).trans g0, (hb.cell (p := ⟨l, p + 1, none⟩) hl).trans g1, (hb.cell (p := ⟨l, p + 2, none⟩) hl).trans g2, (hb.cell (p := ⟨l, p + 3, none⟩) hl).trans g3, (hb.cell (p := ⟨l, p + 4, none⟩) hl).trans g4, (hb.cell (p := ⟨l, p + 5, none⟩) hl).trans g5, (hb.cell (p := ⟨l, p + 6, none⟩) hl).trans g6, (hb.cell (p := ⟨l, p + 7, none⟩) hl).trans g7, (hb.cell (p := ⟨l, p + 8, none⟩) hl).trans g8, (hb.cell (p := ⟨l, p + 9, none⟩) hl).trans g9⟩, hB.trans (hb.mono hB.size)⟩
theorem kpTwod {w W : World} {k l o p : Nat} {v0 v1 v2 v3 v4 v5 v6 v7 v8 v9 u0 u1 u2 u3 u4 u5 u6 u7 u8 u9 : Value} (h : (W.cell? ⟨k, o, none⟩ = some (v0) ∧ W.cell? ⟨k, o + 1, none⟩ = some (v1) ∧ W.cell? ⟨k, o + 2, none⟩ = some (v2) ∧ W.cell? ⟨k, o + 3, none⟩ = some (v3) ∧ W.cell? ⟨k, o + 4, none⟩ = some (v4) ∧ W.cell? ⟨k, o + 5, none⟩ = some (v5) ∧ W.cell? ⟨k, o + 6, none⟩ = some (v6) ∧ W.cell? ⟨k, o + 7, none⟩ = some (v7) ∧ W.cell? ⟨k, o + 8, none⟩ = some (v8) ∧ W.cell? ⟨k, o + 9, none⟩ = some (v9)) ∧ (W.cell? ⟨l, p, none⟩ = some (u0) ∧ W.cell? ⟨l, p + 1, none⟩ = some (u1) ∧ W.cell? ⟨l, p + 2, none⟩ = some (u2) ∧ W.cell? ⟨l, p + 3, none⟩ = some (u3) ∧ W.cell? ⟨l, p + 4, none⟩ = some (u4) ∧ W.cell? ⟨l, p + 5, none⟩ = some (u5) ∧ W.cell? ⟨l, p + 6, none⟩ = some (u6) ∧ W.cell? ⟨l, p + 7, none⟩ = some (u7) ∧ W.cell? ⟨l, p + 8, none⟩ = some (u8) ∧ W.cell? ⟨l, p + 9, none⟩ = some (u9)) ∧ Below w.heap.size w W) : (W.drew.cell? ⟨k, o, none⟩ = some (v0) ∧ W.drew.cell? ⟨k, o + 1, none⟩ = some (v1) ∧ W.drew.cell? ⟨k, o + 2, none⟩ = some (v2) ∧ W.drew.cell? ⟨k, o + 3, none⟩ = some (v3) ∧ W.drew.cell? ⟨k, o + 4, none⟩ = some (v4) ∧ W.drew.cell? ⟨k, o + 5, none⟩ = some (v5) ∧ W.drew.cell? ⟨k, o + 6, none⟩ = some (v6) ∧ W.drew.cell? ⟨k, o + 7, none⟩ = some (v7) ∧ W.drew.cell? ⟨k, o + 8, none⟩ = some (v8) ∧ W.drew.cell? ⟨k, o + 9, none⟩ = some (v9)) ∧ (W.drew.cell? ⟨l, p, none⟩ = some (u0) ∧ W.drew.cell? ⟨l, p + 1, none⟩ = some (u1) ∧ W.drew.cell? ⟨l, p + 2, none⟩ = some (u2) ∧ W.drew.cell? ⟨l, p + 3, none⟩ = some (u3) ∧ W.drew.cell? ⟨l, p + 4, none⟩ = some (u4) ∧ W.drew.cell? ⟨l, p + 5, none⟩ = some (u5) ∧ W.drew.cell? ⟨l, p + 6, none⟩ = some (u6) ∧ W.drew.cell? ⟨l, p + 7, none⟩ = some (u7) ∧ W.drew.cell? ⟨l, p + 8, none⟩ = some (u8) ∧ W.drew.cell? ⟨l, p + 9, none⟩ = some (u9)) ∧ Below w.heap.size w W.drew := ⟨h.1, h.2.1, below_drew h.2.2⟩
theorem byt_small {w : World} {a : Option Addr} {len : Nat} {X : Nat → Nat} (h : Byt w a len X) : ∀ y ∈ (List.range len).map X, y < 256 := by
  intro y hy
  simp only [List.mem_map, List.mem_range] at hy
  obtain ⟨j, hj, rfl⟩ := hy
  rcases h with h | ⟨_, _, _, _, hc⟩
  · omega
  · exact (hc j hj).2
set_option maxHeartbeats 8000000 in
theorem decodes_cut_good (w : World) (a : Addr) (len cap : Nat) (hlen : 2000 < len) (hc : len ≤ cap) (hc2 : cap < 9223372036854775808) (X : Nat → Nat) (hB : Byt w (some a) len X) (l : List Nat) (hl : l = (List.range 2000).map X) (L : List En) (hG : Good l L) :
    Calls Try.prog 4 #[.slice (some a) len cap] w fun e w' => e = .returned (.bool true) ∧ Below w.heap.size w w' := by
  obtain ⟨i0, hi, hz0, hz1, hz2⟩ := info_parts info_u8
  have HV := veil live_ok'
  have h2000 : 2000 < (len : Int) := by omega
  have hcI : 2000 ≤ (cap : Int) := by omega
  have hBn := hB.cut (m := 2000) (by omega)
  have hll : l.length = 2000 := by rw [hl]; simp
  have hLL := good_le hG
  have hsm := byt_small hBn
  rw [← hl] at hsm
  have HSB : Hid (Says w (.slice (some a) 2000 cap) (strN l)) := by rw [hl]; exact says_byt hBn
  have HD : Hid (∀ W base v, W.ownsRow base 5 1 v l.length (u8s l) → Calls Try.prog 18 #[v] W (DecY W 36 L)) := fun W base v ho => (dec_row W base v l ho hsm (by omega)).mono (fun e w' q => q.good hG)
  have HRD : Hid (∀ W, Below w.heap.size w W → Calls Try.prog 19 #[.slice (some a) 2000 cap] W (DecY W 39 L)) := fun W hb => (rdec_ok W _ 2000 cap X (hBn.below hb) (by omega) (by omega) hc2 l hl).mono (fun e w' q => q.good hG)
  have HRT : Hid (∀ x ∈ L, RightE x ∧ WfE x) := hG.1
  have HNW : Hid (∀ j u, (u8s l)[j]? = some u → (w.alloc (.cells #[] 5)).cell? (a.add j) = some u) := by
    rw [hl, ← bytes_u8s]
    exact byt_news hBn ((Below.refl w.heap.size w).alloc (Nat.le_refl _) _)
  have HLE : Hid ((u8s l).length = 2000 * 1) := by show _ = _; rw [u8s_length, hll, Nat.mul_one]
  have hLm : L.length ≤ 2000 := by omega
  have hLm' : (L.length : Int) ≤ 2000 := by omega
  clear hG hsm hBn hl hB
  go_enter Try.func4, Try.ntmps4
  go_wp2_with (first
    | (go_at_call 19; refine (HRD.out _ HB2.out).mono ?_; rintro e w3 ⟨Z3, v3, hZ3, rfl, hR3, hb3⟩; obtain ⟨a3, c3, rfl, hE3⟩ := hR3.ens; rw [hZ3] at hE3; have hl3 : Z3.length = L.length := (by rw [← hZ3, List.length_map]); rw [hl3]; have HE3 := veil hE3; have HE3' := veil (HE2.out.below hb3); have HB3 := veil (HB2.out.trans (hb3.mono HB2.out.size)); have t1 := HSY2.out _ hb3; have t2 := HSB.out _ HB3.out; clear hZ3 hR3 hb3 hE3 hl3)
    | (go_at_call 18; refine (HD.out _ _ _ HO1.out).mono ?_; rintro e w2 ⟨Z2, v2, hZ2, rfl, hR2, hb2⟩; obtain ⟨a2, c2, rfl, hE2⟩ := hR2.ens; rw [hZ2] at hE2; have hl2 : Z2.length = L.length := (by rw [← hZ2, List.length_map]); rw [hl2]; have HE2 := veil hE2; have HSY2 := veil (HSY1.out.below hb2); have HB2 := veil (HB1.out.trans (hb2.mono HB1.out.size)); clear hZ2 hR2 hb2 hE2 hl2)
    | (at_builtin; refine wpList_append_own _ rfl _ _ 24 rfl w.heap.size 5 i0 (.int .u8 0) 1 1 Try.underlying24 hi hz0 hz1 hz2 rfl (by decide) (.slice (some ⟨w.heap.size, 0, none⟩) 0 0) 0 [] rfl (lit_none w _) a 2000 cap (u8s l) rfl HLE.out HNW.out (u8s_one _) (by unfold maxLen; omega) (by omega) (by simp) ?_; intro v1 w1 ho1 hg1 _; have HO1 := veil (own_eq ho1 (show 0 + 2000 = l.length by omega) (List.nil_append _)); have HSY1 := veil (says_u8s HO1.out); have HB1 := veil (((Below.refl w.heap.size w).alloc (Nat.le_refl _) _).grown hg1 (by simp) (fun k hk => (by simp [Value.ownBlock] at hk; omega))); clear ho1 hg1))
  clear HD HRD HSY1 HSY2 HSB t1 t2 HO1 HB1 HB2 HE2
  go_loopw [10] (fun i wr => ∃ (j : Nat), j ≤ L.length ∧ i = .int .i64 (j : Int) ∧ Below w3.heap.size w3 wr) (fun i _ => L.length - (intOf i).toNat)
  case atStart => exact ⟨0, by omega, rfl, Below.refl _ _⟩
  case round =>
    obtain ⟨j, hj, rfl, hbel⟩ := hrel
    by_cases hjl : j < L.length
    · have hjl' : (j : Int) < (L.length : Int) := by omega
      obtain ⟨x, hx⟩ : ∃ x, L[j]? = some x := ⟨L[j], List.getElem?_eq_getElem hjl⟩
      rcases HE3'.out with h0 | ⟨lx, ox, rfl, hlx, hcx⟩
      · subst h0; simp at hjl
      rcases HE3.out with h0 | ⟨ly, oy, rfl, hly, hcy⟩
      · subst h0; simp at hjl
      obtain ⟨cx, dx, hex⟩ := hcx j x hx
      obtain ⟨cy, dy, hey⟩ := hcy j x hx
      have hfx := hex.below hlx hbel
      have hfy := hey.below hly hbel
      have HSx : Hid ((wr.cell? ⟨lx, ox + j * 10, none⟩ = some (.int .i64 x.d) ∧ wr.cell? ⟨lx, ox + j * 10 + 1, none⟩ = some (.int .i64 x.p) ∧ wr.cell? ⟨lx, ox + j * 10 + 2, none⟩ = some (.int .u64 (x.dr : Int)) ∧ wr.cell? ⟨lx, ox + j * 10 + 3, none⟩ = some (.int .i64 x.n) ∧ wr.cell? ⟨lx, ox + j * 10 + 4, none⟩ = some (.slice cx x.code.length dx) ∧ wr.cell? ⟨lx, ox + j * 10 + 5, none⟩ = some (.int .u64 (x.bu : Int)) ∧ wr.cell? ⟨lx, ox + j * 10 + 6, none⟩ = some (.int .u64 (x.pe : Int)) ∧ wr.cell? ⟨lx, ox + j * 10 + 7, none⟩ = some (.int .i64 x.pr) ∧ wr.cell? ⟨lx, ox + j * 10 + 8, none⟩ = some (.int .u8 (x.lv : Int)) ∧ wr.cell? ⟨lx, ox + j * 10 + 9, none⟩ = some (.int .i64 x.sv)) ∧ (wr.cell? ⟨ly, oy + j * 10, none⟩ = some (.int .i64 x.d) ∧ wr.cell? ⟨ly, oy + j * 10 + 1, none⟩ = some (.int .i64 x.p) ∧ wr.cell? ⟨ly, oy + j * 10 + 2, none⟩ = some (.int .u64 (x.dr : Int)) ∧ wr.cell? ⟨ly, oy + j * 10 + 3, none⟩ = some (.int .i64 x.n) ∧ wr.cell? ⟨ly, oy + j * 10 + 4, none⟩ = some (.slice cy x.code.length dy) ∧ wr.cell? ⟨ly, oy + j * 10 + 5, none⟩ = some (.int .u64 (x.bu : Int)) ∧ wr.cell? ⟨ly, oy + j * 10 + 6, none⟩ = some (.int .u64 (x.pe : Int)) ∧ wr.cell? ⟨ly, oy + j * 10 + 7, none⟩ = some (.int .i64 x.pr) ∧ wr.cell? ⟨ly, oy + j * 10 + 8, none⟩ = some (.int .u8 (x.lv : Int)) ∧ wr.cell? ⟨ly, oy + j * 10 + 9, none⟩ = some (.int .i64 x.sv)) ∧ Below w3.heap.size w3 wr) := ⟨⟨hfx.c0, hfx.c1, hfx.c2, hfx.c3, hfx.c4, hfx.c5, hfx.c6, hfx.c7, hfx.c8, hfx.c9⟩, ⟨hfy.c0, hfy.c1, hfy.c2, hfy.c3, hfy.c4, hfy.c5, hfy.c6, hfy.c7, hfy.c8, hfy.c9⟩, hbel⟩
      have HRF := veil (fun W => ref_ok W x cx dx (right_wf (HRT.out x (List.mem_of_getElem? hx)).1))
      have HSM : Hid (∀ W, Below w3.heap.size w3 W → Calls Try.prog 20 #[.agg #[.int .i64 x.d, .int .i64 x.p, .int .u64 (x.dr : Int), .int .i64 x.n, .slice cx x.code.length dx, .int .u64 (x.bu : Int), .int .u64 (x.pe : Int), .int .i64 x.pr, .int .u8 (x.lv : Int), .int .i64 x.sv], .agg #[.int .i64 x.d, .int .i64 x.p, .int .u64 (x.dr : Int), .int .i64 x.n, .slice cy x.code.length dy, .int .u64 (x.bu : Int), .int .u64 (x.pe : Int), .int .i64 x.pr, .int .u8 (x.lv : Int), .int .i64 x.sv]] W fun e w' => e = .returned (.bool true) ∧ Below W.heap.size W w') := fun W hb => by rw [← eqB_self x]; exact rsame_b W x x cx cy dx dy (hex.cod.below hb) (hey.cod.below hb) hex.len
      clear hbel hcx hcy hx hex hey hfx hfy HRT HE3 HE3' HV
      go_wp2_with fail
      refine wp_region_held_drew (S := (fun W => (W.cell? ⟨lx, ox + j * 10, none⟩ = some (.int .i64 x.d) ∧ W.cell? ⟨lx, ox + j * 10 + 1, none⟩ = some (.int .i64 x.p) ∧ W.cell? ⟨lx, ox + j * 10 + 2, none⟩ = some (.int .u64 (x.dr : Int)) ∧ W.cell? ⟨lx, ox + j * 10 + 3, none⟩ = some (.int .i64 x.n) ∧ W.cell? ⟨lx, ox + j * 10 + 4, none⟩ = some (.slice cx x.code.length dx) ∧ W.cell? ⟨lx, ox + j * 10 + 5, none⟩ = some (.int .u64 (x.bu : Int)) ∧ W.cell? ⟨lx, ox + j * 10 + 6, none⟩ = some (.int .u64 (x.pe : Int)) ∧ W.cell? ⟨lx, ox + j * 10 + 7, none⟩ = some (.int .i64 x.pr) ∧ W.cell? ⟨lx, ox + j * 10 + 8, none⟩ = some (.int .u8 (x.lv : Int)) ∧ W.cell? ⟨lx, ox + j * 10 + 9, none⟩ = some (.int .i64 x.sv)) ∧ (W.cell? ⟨ly, oy + j * 10, none⟩ = some (.int .i64 x.d) ∧ W.cell? ⟨ly, oy + j * 10 + 1, none⟩ = some (.int .i64 x.p) ∧ W.cell? ⟨ly, oy + j * 10 + 2, none⟩ = some (.int .u64 (x.dr : Int)) ∧ W.cell? ⟨ly, oy + j * 10 + 3, none⟩ = some (.int .i64 x.n) ∧ W.cell? ⟨ly, oy + j * 10 + 4, none⟩ = some (.slice cy x.code.length dy) ∧ W.cell? ⟨ly, oy + j * 10 + 5, none⟩ = some (.int .u64 (x.bu : Int)) ∧ W.cell? ⟨ly, oy + j * 10 + 6, none⟩ = some (.int .u64 (x.pe : Int)) ∧ W.cell? ⟨ly, oy + j * 10 + 7, none⟩ = some (.int .i64 x.pr) ∧ W.cell? ⟨ly, oy + j * 10 + 8, none⟩ = some (.int .u8 (x.lv : Int)) ∧ W.cell? ⟨ly, oy + j * 10 + 9, none⟩ = some (.int .i64 x.sv)) ∧ Below w3.heap.size w3 W)) (by kernel_rfl) (kpTwod HSx.out) (fun hHeld => ?_)
      refine wpAnyH_take (i := 0) (v := ?_) rfl (by kernel_rfl) (by kernel_rfl) (by kernel_rfl) (fun _ _ _ h => h) (Or.inl ⟨by rfl, ?v0⟩) (by assumption) ?_
      case v0 => (intro w hSw; (try dsimp only at hSw); go_simp; try with_reducible rfl)
      try simp only [Act.put, List.setIfInBounds_toArray, List.set_cons_zero, List.set_cons_succ, List.getElem_toArray, List.getElem_cons_zero]
      refine wpAnyH_take (i := 1) (v := ?_) rfl (by kernel_rfl) (by kernel_rfl) (by kernel_rfl) (fun _ _ _ h => h) (Or.inl ⟨by rfl, ?v1⟩) (by assumption) ?_
      case v1 => (intro w hSw; (try dsimp only at hSw); go_simp; try with_reducible rfl)
      try simp only [Act.put, List.setIfInBounds_toArray, List.set_cons_zero, List.set_cons_succ, List.getElem_toArray, List.getElem_cons_succ, List.getElem_cons_zero]
      refine wpAnyH_take (i := 2) (v := ?_) rfl (by kernel_rfl) (by kernel_rfl) (by kernel_rfl) (fun _ _ _ h => h) (Or.inl ⟨by rfl, ?v2⟩) (by assumption) ?_
      case v2 => (intro w hSw; (try dsimp only at hSw); go_simp; try with_reducible rfl)
      try simp only [Act.put, List.setIfInBounds_toArray, List.set_cons_zero, List.set_cons_succ, List.getElem_toArray, List.getElem_cons_succ, List.getElem_cons_zero]
      refine wpAnyH_take (i := 3) (v := ?_) rfl (by kernel_rfl) (by kernel_rfl) (by kernel_rfl) (fun _ _ _ h => h) (Or.inl ⟨by rfl, ?v3⟩) (by assumption) ?_
      case v3 => (intro w hSw; (try dsimp only at hSw); go_simp; try with_reducible rfl)
      try simp only [Act.put, List.setIfInBounds_toArray, List.set_cons_zero, List.set_cons_succ, List.getElem_toArray, List.getElem_cons_succ, List.getElem_cons_zero]
      refine wpAnyH_take (i := 5) (v := ?_) rfl (by kernel_rfl) (by kernel_rfl) (by kernel_rfl) (fun _ _ _ h => h) (Or.inl ⟨by rfl, ?v5⟩) (by assumption) ?_
      case v5 => (intro w hSw; (try dsimp only at hSw); go_simp; try with_reducible rfl)
      try simp only [Act.put, List.setIfInBounds_toArray, List.set_cons_zero, List.set_cons_succ, List.getElem_toArray, List.getElem_cons_succ, List.getElem_cons_zero]
      refine wpAnyH_take (i := 6) (v := ?_) rfl (by kernel_rfl) (by kernel_rfl) (by kernel_rfl) (fun _ _ _ h => h) (Or.inl ⟨by rfl, ?v6⟩) (by assumption) ?_
      case v6 => (intro w hSw; (try dsimp only at hSw); go_simp; try with_reducible rfl)
      try simp only [Act.put, List.setIfInBounds_toArray, List.set_cons_zero, List.set_cons_succ, List.getElem_toArray, List.getElem_cons_succ, List.getElem_cons_zero]
      refine wpAnyH_take (i := 7) (v := ?_) rfl (by kernel_rfl) (by kernel_rfl) (by kernel_rfl) (fun _ _ _ h => h) (Or.inl ⟨by rfl, ?v7⟩) (by assumption) ?_
      case v7 => (intro w hSw; (try dsimp only at hSw); go_simp; try with_reducible rfl)
      try simp only [Act.put, List.setIfInBounds_toArray, List.set_cons_zero, List.set_cons_succ, List.getElem_toArray, List.getElem_cons_succ, List.getElem_cons_zero]
      refine wpAnyH_take (i := 8) (v := ?_) rfl (by kernel_rfl) (by kernel_rfl) (by kernel_rfl) (fun _ _ _ h => h) (Or.inl ⟨by rfl, ?v8⟩) (by assumption) ?_
      case v8 => (intro w hSw; (try dsimp only at hSw); go_simp; try with_reducible rfl)
      try simp only [Act.put, List.setIfInBounds_toArray, List.set_cons_zero, List.set_cons_succ, List.getElem_toArray, List.getElem_cons_succ, List.getElem_cons_zero]
      refine wpAnyH_ready (rs := [4]) (by kernel_rfl) (by simp) ?_
      refine AllReadyH.cons rfl (fun K hK => ?_) AllReadyH.nil
      go_simp
      have hS := hHeld
      clear hHeld
      refine (HRF.out _).mono ?_
      rintro e w5 ⟨rfl, hb1⟩
      have hHeld := kpTwo hb1 hS
      clear hS hb1
      dsimp only
      refine hK.out _ _ ?_ (fun hHeld => ?_)
      · exact hHeld
      clear hK K
      try simp only [Act.put, List.setIfInBounds_toArray, List.set_cons_zero, List.set_cons_succ, List.getElem_toArray, List.getElem_cons_succ, List.getElem_cons_zero]
      refine wpAnyH_ready (rs := [9]) (by kernel_rfl) (by simp) ?_
      refine AllReadyH.cons rfl (fun K hK => ?_) AllReadyH.nil
      go_simp
      have hS := hHeld
      clear hHeld
      refine (HSM.out _ hS.2.2).mono ?_
      rintro e w5 ⟨rfl, hb1⟩
      have hHeld := kpTwo hb1 hS
      clear hS hb1
      dsimp only
      refine hK.out _ _ ?_ (fun hHeld => ?_)
      · exact hHeld
      clear hK K
      try simp only [Act.put, List.setIfInBounds_toArray, List.set_cons_zero, List.set_cons_succ, List.getElem_toArray, List.getElem_cons_succ, List.getElem_cons_zero]
      refine wpAnyH_take (i := 10) (v := ?_) rfl (by kernel_rfl) (by kernel_rfl) (by kernel_rfl) (fun _ _ _ h => h) (Or.inl ⟨by rfl, ?v10⟩) (by assumption) ?_
      case v10 => (intro w hSw; (try dsimp only at hSw); go_simp; try with_reducible rfl)
      try simp only [Act.put, List.setIfInBounds_toArray, List.set_cons_zero, List.set_cons_succ, List.getElem_toArray, List.getElem_cons_succ, List.getElem_cons_zero]
      refine wpAnyH_done (by kernel_rfl) ?_ _
      skip
      go_wp2
      exact ⟨⟨j + 1, by omega, by go_num, hHeld.2.2⟩, by simp [intOf]; omega⟩
    · have hjl' : ¬ (j : Int) < (L.length : Int) := by omega
      have HB4 := veil (HB3.out.trans (hbel.mono HB3.out.size))
      clear hbel
      go_wp2_with (go_at_call 17; refine (HV.out _).mono ?_; rintro e w5 ⟨rfl, hb5⟩; have HB5 := veil (HB4.out.trans (hb5.mono HB4.out.size)); clear hb5)
      go_ret
      exact ⟨rfl, HB5.out⟩
set_option maxHeartbeats 8000000 in
theorem decodes_some_good (w : World) (a : Addr) (len cap : Nat) (hlen : len ≤ 2000) (hc : len ≤ cap) (hc2 : cap < 9223372036854775808) (X : Nat → Nat) (hB : Byt w (some a) len X) (l : List Nat) (hl : l = (List.range len).map X) (L : List En) (hG : Good l L) :
    Calls Try.prog 4 #[.slice (some a) len cap] w fun e w' => e = .returned (.bool true) ∧ Below w.heap.size w w' := by
  obtain ⟨i0, hi, hz0, hz1, hz2⟩ := info_parts info_u8
  have HV := veil live_ok'
  have h2000 : ¬ 2000 < (len : Int) := by omega
  have hBn := hB
  have hll : l.length = len := by rw [hl]; simp
  have hLL := good_le hG
  have hsm := byt_small hBn
  rw [← hl] at hsm
  have HSB : Hid (Says w (.slice (some a) len cap) (strN l)) := by rw [hl]; exact says_byt hBn
  have HD : Hid (∀ W base v, W.ownsRow base 5 1 v l.length (u8s l) → Calls Try.prog 18 #[v] W (DecY W 36 L)) := fun W base v ho => (dec_row W base v l ho hsm (by omega)).mono (fun e w' q => q.good hG)
  have HRD : Hid (∀ W, Below w.heap.size w W → Calls Try.prog 19 #[.slice (some a) len cap] W (DecY W 39 L)) := fun W hb => (rdec_ok W _ len cap X (hBn.below hb) (by omega) (by omega) hc2 l hl).mono (fun e w' q => q.good hG)
  have HRT : Hid (∀ x ∈ L, RightE x ∧ WfE x) := hG.1
  have HNW : Hid (∀ j u, (u8s l)[j]? = some u → (w.alloc (.cells #[] 5)).cell? (a.add j) = some u) := by
    rw [hl, ← bytes_u8s]
    exact byt_news hBn ((Below.refl w.heap.size w).alloc (Nat.le_refl _) _)
  have HLE : Hid ((u8s l).length = len * 1) := by show _ = _; rw [u8s_length, hll, Nat.mul_one]
  have hLm : L.length ≤ 2000 := by omega
  have hLm' : (L.length : Int) ≤ 2000 := by omega
  clear hG hsm hBn hl hB
  go_enter Try.func4, Try.ntmps4
  go_wp2_with (first
    | (go_at_call 19; refine (HRD.out _ HB2.out).mono ?_; rintro e w3 ⟨Z3, v3, hZ3, rfl, hR3, hb3⟩; obtain ⟨a3, c3, rfl, hE3⟩ := hR3.ens; rw [hZ3] at hE3; have hl3 : Z3.length = L.length := (by rw [← hZ3, List.length_map]); rw [hl3]; have HE3 := veil hE3; have HE3' := veil (HE2.out.below hb3); have HB3 := veil (HB2.out.trans (hb3.mono HB2.out.size)); have t1 := HSY2.out _ hb3; have t2 := HSB.out _ HB3.out; clear hZ3 hR3 hb3 hE3 hl3)
    | (go_at_call 18; refine (HD.out _ _ _ HO1.out).mono ?_; rintro e w2 ⟨Z2, v2, hZ2, rfl, hR2, hb2⟩; obtain ⟨a2, c2, rfl, hE2⟩ := hR2.ens; rw [hZ2] at hE2; have hl2 : Z2.length = L.length := (by rw [← hZ2, List.length_map]); rw [hl2]; have HE2 := veil hE2; have HSY2 := veil (HSY1.out.below hb2); have HB2 := veil (HB1.out.trans (hb2.mono HB1.out.size)); clear hZ2 hR2 hb2 hE2 hl2)
    | (at_builtin; refine wpList_append_own _ rfl _ _ 24 rfl w.heap.size 5 i0 (.int .u8 0) 1 1 Try.underlying24 hi hz0 hz1 hz2 rfl (by decide) (.slice (some ⟨w.heap.size, 0, none⟩) 0 0) 0 [] rfl (lit_none w _) a len cap (u8s l) rfl HLE.out HNW.out (u8s_one _) (by unfold maxLen; omega) (by omega) (by simp) ?_; intro v1 w1 ho1 hg1 _; have HO1 := veil (own_eq ho1 (show 0 + len = l.length by omega) (List.nil_append _)); have HSY1 := veil (says_u8s HO1.out); have HB1 := veil (((Below.refl w.heap.size w).alloc (Nat.le_refl _) _).grown hg1 (by simp) (fun k hk => (by simp [Value.ownBlock] at hk; omega))); clear ho1 hg1))
  clear HD HRD HSY1 HSY2 HSB t1 t2 HO1 HB1 HB2 HE2
  go_loopw [10] (fun i wr => ∃ (j : Nat), j ≤ L.length ∧ i = .int .i64 (j : Int) ∧ Below w3.heap.size w3 wr) (fun i _ => L.length - (intOf i).toNat)
  case atStart => exact ⟨0, by omega, rfl, Below.refl _ _⟩
  case round =>
    obtain ⟨j, hj, rfl, hbel⟩ := hrel
    by_cases hjl : j < L.length
    · have hjl' : (j : Int) < (L.length : Int) := by omega
      obtain ⟨x, hx⟩ : ∃ x, L[j]? = some x := ⟨L[j], List.getElem?_eq_getElem hjl⟩
      rcases HE3'.out with h0 | ⟨lx, ox, rfl, hlx, hcx⟩
      · subst h0; simp at hjl
      rcases HE3.out with h0 | ⟨ly, oy, rfl, hly, hcy⟩
      · subst h0; simp at hjl
      obtain ⟨cx, dx, hex⟩ := hcx j x hx
      obtain ⟨cy, dy, hey⟩ := hcy j x hx
      have hfx := hex.below hlx hbel
      have hfy := hey.below hly hbel
      have HSx : Hid ((wr.cell? ⟨lx, ox + j * 10, none⟩ = some (.int .i64 x.d) ∧ wr.cell? ⟨lx, ox + j * 10 + 1, none⟩ = some (.int .i64 x.p) ∧ wr.cell? ⟨lx, ox + j * 10 + 2, none⟩ = some (.int .u64 (x.dr : Int)) ∧ wr.cell? ⟨lx, ox + j * 10 + 3, none⟩ = some (.int .i64 x.n) ∧ wr.cell? ⟨lx, ox + j * 10 + 4, none⟩ = some (.slice cx x.code.length dx) ∧ wr.cell? ⟨lx, ox + j * 10 + 5, none⟩ = some (.int .u64 (x.bu : Int)) ∧ wr.cell? ⟨lx, ox + j * 10 + 6, none⟩ = some (.int .u64 (x.pe : Int)) ∧ wr.cell? ⟨lx, ox + j * 10 + 7, none⟩ = some (.int .i64 x.pr) ∧ wr.cell? ⟨lx, ox + j * 10 + 8, none⟩ = some (.int .u8 (x.lv : Int)) ∧ wr.cell? ⟨lx, ox + j * 10 + 9, none⟩ = some (.int .i64 x.sv)) ∧ (wr.cell? ⟨ly, oy + j * 10, none⟩ = some (.int .i64 x.d) ∧ wr.cell? ⟨ly, oy + j * 10 + 1, none⟩ = some (.int .i64 x.p) ∧ wr.cell? ⟨ly, oy + j * 10 + 2, none⟩ = some (.int .u64 (x.dr : Int)) ∧ wr.cell? ⟨ly, oy + j * 10 + 3, none⟩ = some (.int .i64 x.n) ∧ wr.cell? ⟨ly, oy + j * 10 + 4, none⟩ = some (.slice cy x.code.length dy) ∧ wr.cell? ⟨ly, oy + j * 10 + 5, none⟩ = some (.int .u64 (x.bu : Int)) ∧ wr.cell? ⟨ly, oy + j * 10 + 6, none⟩ = some (.int .u64 (x.pe : Int)) ∧ wr.cell? ⟨ly, oy + j * 10 + 7, none⟩ = some (.int .i64 x.pr) ∧ wr.cell? ⟨ly, oy + j * 10 + 8, none⟩ = some (.int .u8 (x.lv : Int)) ∧ wr.cell? ⟨ly, oy + j * 10 + 9, none⟩ = some (.int .i64 x.sv)) ∧ Below w3.heap.size w3 wr) := ⟨⟨hfx.c0, hfx.c1, hfx.c2, hfx.c3, hfx.c4, hfx.c5, hfx.c6, hfx.c7, hfx.c8, hfx.c9⟩, ⟨hfy.c0, hfy.c1, hfy.c2, hfy.c3, hfy.c4, hfy.c5, hfy.c6, hfy.c7, hfy.c8, hfy.c9⟩, hbel⟩
      have HRF := veil (fun W => ref_ok W x cx dx (right_wf (HRT.out x (List.mem_of_getElem? hx)).1))
      have HSM : Hid (∀ W, Below w3.heap.size w3 W → Calls Try.prog 20 #[.agg #[.int .i64 x.d, .int .i64 x.p, .int .u64 (x.dr : Int), .int .i64 x.n, .slice cx x.code.length dx, .int .u64 (x.bu : Int), .int .u64 (x.pe : Int), .int .i64 x.pr, .int .u8 (x.lv : Int), .int .i64 x.sv], .agg #[.int .i64 x.d, .int .i64 x.p, .int .u64 (x.dr : Int), .int .i64 x.n, .slice cy x.code.length dy, .int .u64 (x.bu : Int), .int .u64 (x.pe : Int), .int .i64 x.pr, .int .u8 (x.lv : Int), .int .i64 x.sv]] W fun e w' => e = .returned (.bool true) ∧ Below W.heap.size W w') := fun W hb => by rw [← eqB_self x]; exact rsame_b W x x cx cy dx dy (hex.cod.below hb) (hey.cod.below hb) hex.len
      clear hbel hcx hcy hx hex hey hfx hfy HRT HE3 HE3' HV
      go_wp2_with fail
      refine wp_region_held_drew (S := (fun W => (W.cell? ⟨lx, ox + j * 10, none⟩ = some (.int .i64 x.d) ∧ W.cell? ⟨lx, ox + j * 10 + 1, none⟩ = some (.int .i64 x.p) ∧ W.cell? ⟨lx, ox + j * 10 + 2, none⟩ = some (.int .u64 (x.dr : Int)) ∧ W.cell? ⟨lx, ox + j * 10 + 3, none⟩ = some (.int .i64 x.n) ∧ W.cell? ⟨lx, ox + j * 10 + 4, none⟩ = some (.slice cx x.code.length dx) ∧ W.cell? ⟨lx, ox + j * 10 + 5, none⟩ = some (.int .u64 (x.bu : Int)) ∧ W.cell? ⟨lx, ox + j * 10 + 6, none⟩ = some (.int .u64 (x.pe : Int)) ∧ W.cell? ⟨lx, ox + j * 10 + 7, none⟩ = some (.int .i64 x.pr) ∧ W.cell? ⟨lx, ox + j * 10 + 8, none⟩ = some (.int .u8 (x.lv : Int)) ∧ W.cell? ⟨lx, ox + j * 10 + 9, none⟩ = some (.int .i64 x.sv)) ∧ (W.cell? ⟨ly, oy + j * 10, none⟩ = some (.int .i64 x.d) ∧ W.cell? ⟨ly, oy + j * 10 + 1, none⟩ = some (.int .i64 x.p) ∧ W.cell? ⟨ly, oy + j * 10 + 2, none⟩ = some (.int .u64 (x.dr : Int)) ∧ W.cell? ⟨ly, oy + j * 10 + 3, none⟩ = some (.int .i64 x.n) ∧ W.cell? ⟨ly, oy + j * 10 + 4, none⟩ = some (.slice cy x.code.length dy) ∧ W.cell? ⟨ly, oy + j * 10 + 5, none⟩ = some (.int .u64 (x.bu : Int)) ∧ W.cell? ⟨ly, oy + j * 10 + 6, none⟩ = some (.int .u64 (x.pe : Int)) ∧ W.cell? ⟨ly, oy + j * 10 + 7, none⟩ = some (.int .i64 x.pr) ∧ W.cell? ⟨ly, oy + j * 10 + 8, none⟩ = some (.int .u8 (x.lv : Int)) ∧ W.cell? ⟨ly, oy + j * 10 + 9, none⟩ = some (.int .i64 x.sv)) ∧ Below w3.heap.size w3 W)) (by kernel_rfl) (kpTwod HSx.out) (fun hHeld => ?_)
      refine wpAnyH_take (i := 0) (v := ?_) rfl (by kernel_rfl) (by kernel_rfl) (by kernel_rfl) (fun _ _ _ h => h) (Or.inl ⟨by rfl, ?v0⟩) (by assumption) ?_
      case v0 => (intro w hSw; (try dsimp only at hSw); go_simp; try with_reducible rfl)
      try simp only [Act.put, List.setIfInBounds_toArray, List.set_cons_zero, List.set_cons_succ, List.getElem_toArray, List.getElem_cons_zero]
      refine wpAnyH_take (i := 1) (v := ?_) rfl (by kernel_rfl) (by kernel_rfl) (by kernel_rfl) (fun _ _ _ h => h) (Or.inl ⟨by rfl, ?v1⟩) (by assumption) ?_
      case v1 => (intro w hSw; (try dsimp only at hSw); go_simp; try with_reducible rfl)
      try simp only [Act.put, List.setIfInBounds_toArray, List.set_cons_zero, List.set_cons_succ, List.getElem_toArray, List.getElem_cons_succ, List.getElem_cons_zero]
      refine wpAnyH_take (i := 2) (v := ?_) rfl (by kernel_rfl) (by kernel_rfl) (by kernel_rfl) (fun _ _ _ h => h) (Or.inl ⟨by rfl, ?v2⟩) (by assumption) ?_
      case v2 => (intro w hSw; (try dsimp only at hSw); go_simp; try with_reducible rfl)
      try simp only [Act.put, List.setIfInBounds_toArray, List.set_cons_zero, List.set_cons_succ, List.getElem_toArray, List.getElem_cons_succ, List.getElem_cons_zero]
      refine wpAnyH_take (i := 3) (v := ?_) rfl (by kernel_rfl) (by kernel_rfl) (by kernel_rfl) (fun _ _ _ h => h) (Or.inl ⟨by rfl, ?v3⟩) (by assumption) ?_
      case v3 => (intro w hSw; (try dsimp only at hSw); go_simp; try with_reducible rfl)
      try simp only [Act.put, List.setIfInBounds_toArray, List.set_cons_zero, List.set_cons_succ, List.getElem_toArray, List.getElem_cons_succ, List.getElem_cons_zero]
      refine wpAnyH_take (i := 5) (v := ?_) rfl (by kernel_rfl) (by kernel_rfl) (by kernel_rfl) (fun _ _ _ h => h) (Or.inl ⟨by rfl, ?v5⟩) (by assumption) ?_
      case v5 => (intro w hSw; (try dsimp only at hSw); go_simp; try with_reducible rfl)
      try simp only [Act.put, List.setIfInBounds_toArray, List.set_cons_zero, List.set_cons_succ, List.getElem_toArray, List.getElem_cons_succ, List.getElem_cons_zero]
      refine wpAnyH_take (i := 6) (v := ?_) rfl (by kernel_rfl) (by kernel_rfl) (by kernel_rfl) (fun _ _ _ h => h) (Or.inl ⟨by rfl, ?v6⟩) (by assumption) ?_
      case v6 => (intro w hSw; (try dsimp only at hSw); go_simp; try with_reducible rfl)
      try simp only [Act.put, List.setIfInBounds_toArray, List.set_cons_zero, List.set_cons_succ, List.getElem_toArray, List.getElem_cons_succ, List.getElem_cons_zero]
      refine wpAnyH_take (i := 7) (v := ?_) rfl (by kernel_rfl) (by kernel_rfl) (by kernel_rfl) (fun _ _ _ h => h) (Or.inl ⟨by rfl, ?v7⟩) (by assumption) ?_
      case v7 => (intro w hSw; (try dsimp only at hSw); go_simp; try with_reducible rfl)
      try simp only [Act.put, List.setIfInBounds_toArray, List.set_cons_zero, List.set_cons_succ, List.getElem_toArray, List.getElem_cons_succ, List.getElem_cons_zero]
      refine wpAnyH_take (i := 8) (v := ?_) rfl (by kernel_rfl) (by kernel_rfl) (by kernel_rfl) (fun _ _ _ h => h) (Or.inl ⟨by rfl, ?v8⟩) (by assumption) ?_
      case v8 => (intro w hSw; (try dsimp only at hSw); go_simp; try with_reducible rfl)
      try simp only [Act.put, List.setIfInBounds_toArray, List.set_cons_zero, List.set_cons_succ, List.getElem_toArray, List.getElem_cons_succ, List.getElem_cons_zero]
      refine wpAnyH_ready (rs := [4]) (by kernel_rfl) (by simp) ?_
      refine AllReadyH.cons rfl (fun K hK => ?_) AllReadyH.nil
      go_simp
      have hS := hHeld
      clear hHeld
      refine (HRF.out _).mono ?_
      rintro e w5 ⟨rfl, hb1⟩
      have hHeld := kpTwo hb1 hS
      clear hS hb1
      dsimp only
      refine hK.out _ _ ?_ (fun hHeld => ?_)
      · exact hHeld
      clear hK K
      try simp only [Act.put, List.setIfInBounds_toArray, List.set_cons_zero, List.set_cons_succ, List.getElem_toArray, List.getElem_cons_succ, List.getElem_cons_zero]
      refine wpAnyH_ready (rs := [9]) (by kernel_rfl) (by simp) ?_
      refine AllReadyH.cons rfl (fun K hK => ?_) AllReadyH.nil
      go_simp
      have hS := hHeld
      clear hHeld
      refine (HSM.out _ hS.2.2).mono ?_
      rintro e w5 ⟨rfl, hb1⟩
      have hHeld := kpTwo hb1 hS
      clear hS hb1
      dsimp only
      refine hK.out _ _ ?_ (fun hHeld => ?_)
      · exact hHeld
      clear hK K
      try simp only [Act.put, List.setIfInBounds_toArray, List.set_cons_zero, List.set_cons_succ, List.getElem_toArray, List.getElem_cons_succ, List.getElem_cons_zero]
      refine wpAnyH_take (i := 10) (v := ?_) rfl (by kernel_rfl) (by kernel_rfl) (by kernel_rfl) (fun _ _ _ h => h) (Or.inl ⟨by rfl, ?v10⟩) (by assumption) ?_
      case v10 => (intro w hSw; (try dsimp only at hSw); go_simp; try with_reducible rfl)
      try simp only [Act.put, List.setIfInBounds_toArray, List.set_cons_zero, List.set_cons_succ, List.getElem_toArray, List.getElem_cons_succ, List.getElem_cons_zero]
      refine wpAnyH_done (by kernel_rfl) ?_ _
      skip
      go_wp2
      exact ⟨⟨j + 1, by omega, by go_num, hHeld.2.2⟩, by simp [intOf]; omega⟩
    · have hjl' : ¬ (j : Int) < (L.length : Int) := by omega
      have HB4 := veil (HB3.out.trans (hbel.mono HB3.out.size))
      clear hbel
      go_wp2_with (go_at_call 17; refine (HV.out _).mono ?_; rintro e w5 ⟨rfl, hb5⟩; have HB5 := veil (HB4.out.trans (hb5.mono HB4.out.size)); clear hb5)
      go_ret
      exact ⟨rfl, HB5.out⟩
set_option maxHeartbeats 8000000 in
theorem decodes_none_good (w : World) (cap : Nat) (hc2 : cap < 9223372036854775808) (X : Nat → Nat) (l : List Nat) (hl : l = (List.range 0).map X) (L : List En) (hG : Good l L) :
    Calls Try.prog 4 #[.slice none 0 cap] w fun e w' => e = .returned (.bool true) ∧ Below w.heap.size w w' := by
  obtain ⟨i0, hi, hz0, hz1, hz2⟩ := info_parts info_u8
  have HV := veil live_ok'
  have hBn : Byt w none 0 X := .inl rfl
  have hll : l.length = 0 := by rw [hl]; simp
  have hLL := good_le hG
  have hsm := byt_small hBn
  rw [← hl] at hsm
  have HSB : Hid (Says w (.slice none 0 cap) (strN l)) := by rw [hl]; exact says_byt hBn
  have HD : Hid (∀ W base v, W.ownsRow base 5 1 v l.length (u8s l) → Calls Try.prog 18 #[v] W (DecY W 36 L)) := fun W base v ho => (dec_row W base v l ho hsm (by omega)).mono (fun e w' q => q.good hG)
  have HRD : Hid (∀ W, Below w.heap.size w W → Calls Try.prog 19 #[.slice none 0 cap] W (DecY W 39 L)) := fun W hb => (rdec_ok W _ 0 cap X (hBn.below hb) (by omega) (by omega) hc2 l hl).mono (fun e w' q => q.good hG)
  have HRT : Hid (∀ x ∈ L, RightE x ∧ WfE x) := hG.1
  have HO1 : Hid ((w.alloc (.cells #[] 5)).ownsRow w.heap.size 5 1 (.slice (some ⟨w.heap.size, 0, none⟩) 0 0) l.length (u8s l)) := own_eq (lit_none w 5) hll.symm (by rw [List.length_eq_zero_iff.1 hll]; rfl)
  have HB1 : Hid (Below w.heap.size w (w.alloc (.cells #[] 5))) := (Below.refl w.heap.size w).alloc (Nat.le_refl _) _
  have HSY1 := veil (says_u8s HO1.out)
  have hLm : L.length ≤ 2000 := by omega
  have hLm' : (L.length : Int) ≤ 2000 := by omega
  clear hG hsm hBn hl
  go_enter Try.func4, Try.ntmps4
  go_wp2_with (first
    | (go_at_call 19; refine (HRD.out _ HB2.out).mono ?_; rintro e w3 ⟨Z3, v3, hZ3, rfl, hR3, hb3⟩; obtain ⟨a3, c3, rfl, hE3⟩ := hR3.ens; rw [hZ3] at hE3; have hl3 : Z3.length = L.length := (by rw [← hZ3, List.length_map]); rw [hl3]; have HE3 := veil hE3; have HE3' := veil (HE2.out.below hb3); have HB3 := veil (HB2.out.trans (hb3.mono HB2.out.size)); have t1 := HSY2.out _ hb3; have t2 := HSB.out _ HB3.out; clear hZ3 hR3 hb3 hE3 hl3)
    | (go_at_call 18; refine (HD.out _ _ _ HO1.out).mono ?_; rintro e w2 ⟨Z2, v2, hZ2, rfl, hR2, hb2⟩; obtain ⟨a2, c2, rfl, hE2⟩ := hR2.ens; rw [hZ2] at hE2; have hl2 : Z2.length = L.length := (by rw [← hZ2, List.length_map]); rw [hl2]; have HE2 := veil hE2; have HSY2 := veil (HSY1.out.below hb2); have HB2 := veil (HB1.out.trans (hb2.mono HB1.out.size)); clear hZ2 hR2 hb2 hE2 hl2))
  clear HD HRD HSY1 HSY2 HSB t1 t2 HO1 HB1 HB2 HE2
  go_loopw [10] (fun i wr => ∃ (j : Nat), j ≤ L.length ∧ i = .int .i64 (j : Int) ∧ Below w3.heap.size w3 wr) (fun i _ => L.length - (intOf i).toNat)
  case atStart => exact ⟨0, by omega, rfl, Below.refl _ _⟩
  case round =>
    obtain ⟨j, hj, rfl, hbel⟩ := hrel
    by_cases hjl : j < L.length
    · have hjl' : (j : Int) < (L.length : Int) := by omega
      obtain ⟨x, hx⟩ : ∃ x, L[j]? = some x := ⟨L[j], List.getElem?_eq_getElem hjl⟩
      rcases HE3'.out with h0 | ⟨lx, ox, rfl, hlx, hcx⟩
      · subst h0; simp at hjl
      rcases HE3.out with h0 | ⟨ly, oy, rfl, hly, hcy⟩
      · subst h0; simp at hjl
      obtain ⟨cx, dx, hex⟩ := hcx j x hx
      obtain ⟨cy, dy, hey⟩ := hcy j x hx
      have hfx := hex.below hlx hbel
      have hfy := hey.below hly hbel
      have HSx : Hid ((wr.cell? ⟨lx, ox + j * 10, none⟩ = some (.int .i64 x.d) ∧ wr.cell? ⟨lx, ox + j * 10 + 1, none⟩ = some (.int .i64 x.p) ∧ wr.cell? ⟨lx, ox + j * 10 + 2, none⟩ = some (.int .u64 (x.dr : Int)) ∧ wr.cell? ⟨lx, ox + j * 10 + 3, none⟩ = some (.int .i64 x.n) ∧ wr.cell? ⟨lx, ox + j * 10 + 4, none⟩ = some (.slice cx x.code.length dx) ∧ wr.cell? ⟨lx, ox + j * 10 + 5, none⟩ = some (.int .u64 (x.bu : Int)) ∧ wr.cell? ⟨lx, ox + j * 10 + 6, none⟩ = some (.int .u64 (x.pe : Int)) ∧ wr.cell? ⟨lx, ox + j * 10 + 7, none⟩ = some (.int .i64 x.pr) ∧ wr.cell? ⟨lx, ox + j * 10 + 8, none⟩ = some (.int .u8 (x.lv : Int)) ∧ wr.cell? ⟨lx, ox + j * 10 + 9, none⟩ = some (.int .i64 x.sv)) ∧ (wr.cell? ⟨ly, oy + j * 10, none⟩ = some (.int .i64 x.d) ∧ wr.cell? ⟨ly, oy + j * 10 + 1, none⟩ = some (.int .i64 x.p) ∧ wr.cell? ⟨ly, oy + j * 10 + 2, none⟩ = some (.int .u64 (x.dr : Int)) ∧ wr.cell? ⟨ly, oy + j * 10 + 3, none⟩ = some (.int .i64 x.n) ∧ wr.cell? ⟨ly, oy + j * 10 + 4, none⟩ = some (.slice cy x.code.length dy) ∧ wr.cell? ⟨ly, oy + j * 10 + 5, none⟩ = some (.int .u64 (x.bu : Int)) ∧ wr.cell? ⟨ly, oy + j * 10 + 6, none⟩ = some (.int .u64 (x.pe : Int)) ∧ wr.cell? ⟨ly, oy + j * 10 + 7, none⟩ = some (.int .i64 x.pr) ∧ wr.cell? ⟨ly, oy + j * 10 + 8, none⟩ = some (.int .u8 (x.lv : Int)) ∧ wr.cell? ⟨ly, oy + j * 10 + 9, none⟩ = some (.int .i64 x.sv)) ∧ Below w3.heap.size w3 wr) := ⟨⟨hfx.c0, hfx.c1, hfx.c2, hfx.c3, hfx.c4, hfx.c5, hfx.c6, hfx.c7, hfx.c8, hfx.c9⟩, ⟨hfy.c0, hfy.c1, hfy.c2, hfy.c3, hfy.c4, hfy.c5, hfy.c6, hfy.c7, hfy.c8, hfy.c9⟩, hbel⟩
      have HRF := veil (fun W => ref_ok W x cx dx (right_wf (HRT.out x (List.mem_of_getElem? hx)).1))
      have HSM : Hid (∀ W, Below w3.heap.size w3 W → Calls Try.prog 20 #[.agg #[.int .i64 x.d, .int .i64 x.p, .int .u64 (x.dr : Int), .int .i64 x.n, .slice cx x.code.length dx, .int .u64 (x.bu : Int), .int .u64 (x.pe : Int), .int .i64 x.pr, .int .u8 (x.lv : Int), .int .i64 x.sv], .agg #[.int .i64 x.d, .int .i64 x.p, .int .u64 (x.dr : Int), .int .i64 x.n, .slice cy x.code.length dy, .int .u64 (x.bu : Int), .int .u64 (x.pe : Int), .int .i64 x.pr, .int .u8 (x.lv : Int), .int .i64 x.sv]] W fun e w' => e = .returned (.bool true) ∧ Below W.heap.size W w') := fun W hb => by rw [← eqB_self x]; exact rsame_b W x x cx cy dx dy (hex.cod.below hb) (hey.cod.below hb) hex.len
      clear hbel hcx hcy hx hex hey hfx hfy HRT HE3 HE3' HV
      go_wp2_with fail
      refine wp_region_held_drew (S := (fun W => (W.cell? ⟨lx, ox + j * 10, none⟩ = some (.int .i64 x.d) ∧ W.cell? ⟨lx, ox + j * 10 + 1, none⟩ = some (.int .i64 x.p) ∧ W.cell? ⟨lx, ox + j * 10 + 2, none⟩ = some (.int .u64 (x.dr : Int)) ∧ W.cell? ⟨lx, ox + j * 10 + 3, none⟩ = some (.int .i64 x.n) ∧ W.cell? ⟨lx, ox + j * 10 + 4, none⟩ = some (.slice cx x.code.length dx) ∧ W.cell? ⟨lx, ox + j * 10 + 5, none⟩ = some (.int .u64 (x.bu : Int)) ∧ W.cell? ⟨lx, ox + j * 10 + 6, none⟩ = some (.int .u64 (x.pe : Int)) ∧ W.cell? ⟨lx, ox + j * 10 + 7, none⟩ = some (.int .i64 x.pr) ∧ W.cell? ⟨lx, ox + j * 10 + 8, none⟩ = some (.int .u8 (x.lv : Int)) ∧ W.cell? ⟨lx, ox + j * 10 + 9, none⟩ = some (.int .i64 x.sv)) ∧ (W.cell? ⟨ly, oy + j * 10, none⟩ = some (.int .i64 x.d) ∧ W.cell? ⟨ly, oy + j * 10 + 1, none⟩ = some (.int .i64 x.p) ∧ W.cell? ⟨ly, oy + j * 10 + 2, none⟩ = some (.int .u64 (x.dr : Int)) ∧ W.cell? ⟨ly, oy + j * 10 + 3, none⟩ = some (.int .i64 x.n) ∧ W.cell? ⟨ly, oy + j * 10 + 4, none⟩ = some (.slice cy x.code.length dy) ∧ W.cell? ⟨ly, oy + j * 10 + 5, none⟩ = some (.int .u64 (x.bu : Int)) ∧ W.cell? ⟨ly, oy + j * 10 + 6, none⟩ = some (.int .u64 (x.pe : Int)) ∧ W.cell? ⟨ly, oy + j * 10 + 7, none⟩ = some (.int .i64 x.pr) ∧ W.cell? ⟨ly, oy + j * 10 + 8, none⟩ = some (.int .u8 (x.lv : Int)) ∧ W.cell? ⟨ly, oy + j * 10 + 9, none⟩ = some (.int .i64 x.sv)) ∧ Below w3.heap.size w3 W)) (by kernel_rfl) (kpTwod HSx.out) (fun hHeld => ?_)
      refine wpAnyH_take (i := 0) (v := ?_) rfl (by kernel_rfl) (by kernel_rfl) (by kernel_rfl) (fun _ _ _ h => h) (Or.inl ⟨by rfl, ?v0⟩) (by assumption) ?_
      case v0 => (intro w hSw; (try dsimp only at hSw); go_simp; try with_reducible rfl)
      try simp only [Act.put, List.setIfInBounds_toArray, List.set_cons_zero, List.set_cons_succ, List.getElem_toArray, List.getElem_cons_zero]
      refine wpAnyH_take (i := 1) (v := ?_) rfl (by kernel_rfl) (by kernel_rfl) (by kernel_rfl) (fun _ _ _ h => h) (Or.inl ⟨by rfl, ?v1⟩) (by assumption) ?_
      case v1 => (intro w hSw; (try dsimp only at hSw); go_simp; try with_reducible rfl)
      try simp only [Act.put, List.setIfInBounds_toArray, List.set_cons_zero, List.set_cons_succ, List.getElem_toArray, List.getElem_cons_succ, List.getElem_cons_zero]
      refine wpAnyH_take (i := 2) (v := ?_) rfl (by kernel_rfl) (by kernel_rfl) (by kernel_rfl) (fun _ _ _ h => h) (Or.inl ⟨by rfl, ?v2⟩) (by assumption) ?_
      case v2 => (intro w hSw; (try dsimp only at hSw); go_simp; try with_reducible rfl)
      try simp only [Act.put, List.setIfInBounds_toArray, List.set_cons_zero, List.set_cons_succ, List.getElem_toArray, List.getElem_cons_succ, List.getElem_cons_zero]
      refine wpAnyH_take (i := 3) (v := ?_) rfl (by kernel_rfl) (by kernel_rfl) (by kernel_rfl) (fun _ _ _ h => h) (Or.inl ⟨by rfl, ?v3⟩) (by assumption) ?_
      case v3 => (intro w hSw; (try dsimp only at hSw); go_simp; try with_reducible rfl)
      try simp only [Act.put, List.setIfInBounds_toArray, List.set_cons_zero, List.set_cons_succ, List.getElem_toArray, List.getElem_cons_succ, List.getElem_cons_zero]
      refine wpAnyH_take (i := 5) (v := ?_) rfl (by kernel_rfl) (by kernel_rfl) (by kernel_rfl) (fun _ _ _ h => h) (Or.inl ⟨by rfl, ?v5⟩) (by assumption) ?_
      case v5 => (intro w hSw; (try dsimp only at hSw); go_simp; try with_reducible rfl)
      try simp only [Act.put, List.setIfInBounds_toArray, List.set_cons_zero, List.set_cons_succ, List.getElem_toArray, List.getElem_cons_succ, List.getElem_cons_zero]
      refine wpAnyH_take (i := 6) (v := ?_) rfl (by kernel_rfl) (by kernel_rfl) (by kernel_rfl) (fun _ _ _ h => h) (Or.inl ⟨by rfl, ?v6⟩) (by assumption) ?_
      case v6 => (intro w hSw; (try dsimp only at hSw); go_simp; try with_reducible rfl)
      try simp only [Act.put, List.setIfInBounds_toArray, List.set_cons_zero, List.set_cons_succ, List.getElem_toArray, List.getElem_cons_succ, List.getElem_cons_zero]
      refine wpAnyH_take (i := 7) (v := ?_) rfl (by kernel_rfl) (by kernel_rfl) (by kernel_rfl) (fun _ _ _ h => h) (Or.inl ⟨by rfl, ?v7⟩) (by assumption) ?_
      case v7 => (intro w hSw; (try dsimp only at hSw); go_simp; try with_reducible rfl)
      try simp only [Act.put, List.setIfInBounds_toArray, List.set_cons_zero, List.set_cons_succ, List.getElem_toArray, List.getElem_cons_succ, List.getElem_cons_zero]
      refine wpAnyH_take (i := 8) (v := ?_) rfl (by kernel_rfl) (by kernel_rfl) (by kernel_rfl) (fun _ _ _ h => h) (Or.inl ⟨by rfl, ?v8⟩) (by assumption) ?_
      case v8 => (intro w hSw; (try dsimp only at hSw); go_simp; try with_reducible rfl)
      try simp only [Act.put, List.setIfInBounds_toArray, List.set_cons_zero, List.set_cons_succ, List.getElem_toArray, List.getElem_cons_succ, List.getElem_cons_zero]
      refine wpAnyH_ready (rs := [4]) (by kernel_rfl) (by simp) ?_
      refine AllReadyH.cons rfl (fun K hK => ?_) AllReadyH.nil
      go_simp
      have hS := hHeld
      clear hHeld
      refine (HRF.out _).mono ?_
      rintro e w5 ⟨rfl, hb1⟩
      have hHeld := kpTwo hb1 hS
      clear hS hb1
      dsimp only
      refine hK.out _ _ ?_ (fun hHeld => ?_)
      · exact hHeld
      clear hK K
      try simp only [Act.put, List.setIfInBounds_toArray, List.set_cons_zero, List.set_cons_succ, List.getElem_toArray, List.getElem_cons_succ, List.getElem_cons_zero]
      refine wpAnyH_ready (rs := [9]) (by kernel_rfl) (by simp) ?_
      refine AllReadyH.cons rfl (fun K hK => ?_) AllReadyH.nil
      go_simp
      have hS := hHeld
      clear hHeld
      refine (HSM.out _ hS.2.2).mono ?_
      rintro e w5 ⟨rfl, hb1⟩
      have hHeld := kpTwo hb1 hS
      clear hS hb1
      dsimp only
      refine hK.out _ _ ?_ (fun hHeld => ?_)
      · exact hHeld
      clear hK K
      try simp only [Act.put, List.setIfInBounds_toArray, List.set_cons_zero, List.set_cons_succ, List.getElem_toArray, List.getElem_cons_succ, List.getElem_cons_zero]
      refine wpAnyH_take (i := 10) (v := ?_) rfl (by kernel_rfl) (by kernel_rfl) (by kernel_rfl) (fun _ _ _ h => h) (Or.inl ⟨by rfl, ?v10⟩) (by assumption) ?_
      case v10 => (intro w hSw; (try dsimp only at hSw); go_simp; try with_reducible rfl)
      try simp only [Act.put, List.setIfInBounds_toArray, List.set_cons_zero, List.set_cons_succ, List.getElem_toArray, List.getElem_cons_succ, List.getElem_cons_zero]
      refine wpAnyH_done (by kernel_rfl) ?_ _
      skip
      go_wp2
      exact ⟨⟨j + 1, by omega, by go_num, hHeld.2.2⟩, by simp [intOf]; omega⟩
    · have hjl' : ¬ (j : Int) < (L.length : Int) := by omega
      have HB4 := veil (HB3.out.trans (hbel.mono HB3.out.size))
      clear hbel
      go_wp2_with (go_at_call 17; refine (HV.out _).mono ?_; rintro e w5 ⟨rfl, hb5⟩; have HB5 := veil (HB4.out.trans (hb5.mono HB4.out.size)); clear hb5)
      go_ret
      exact ⟨rfl, HB5.out⟩
set_option maxHeartbeats 8000000 in
theorem decodes_cut_bad (w : World) (a : Addr) (len cap : Nat) (hlen : 2000 < len) (hc : len ≤ cap) (hc2 : cap < 9223372036854775808) (X : Nat → Nat) (hB : Byt w (some a) len X) (l : List Nat) (hl : l = (List.range 2000).map X) (L : List En) (hG : Bad l L) :
    Calls Try.prog 4 #[.slice (some a) len cap] w fun e w' => e = .returned (.bool true) ∧ Below w.heap.size w w' := by
  obtain ⟨i0, hi, hz0, hz1, hz2⟩ := info_parts info_u8
  have HV := veil live_ok'
  have h2000 : 2000 < (len : Int) := by omega
  have hcI : 2000 ≤ (cap : Int) := by omega
  have hBn := hB.cut (m := 2000) (by omega)
  have hll : l.length = 2000 := by rw [hl]; simp
  have hLL := bad_le hG
  have hsm := byt_small hBn
  rw [← hl] at hsm
  have HSB : Hid (Says w (.slice (some a) 2000 cap) (strN l)) := by rw [hl]; exact says_byt hBn
  have HD : Hid (∀ W base v, W.ownsRow base 5 1 v l.length (u8s l) → Calls Try.prog 18 #[v] W fun e w' => e = .returned (.tuple #[.slice none 0 0, .int .i64 3, .int .i64 (L.length : Int)]) ∧ Below W.heap.size W w') := fun W base v ho => (dec_row W base v l ho hsm (by omega)).mono (fun e w' q => q.bad hG)
  have HRD : Hid (∀ W, Below w.heap.size w W → Calls Try.prog 19 #[.slice (some a) 2000 cap] W fun e w' => e = .returned (.tuple #[.slice none 0 0, .int .i64 3, .int .i64 (L.length : Int)]) ∧ Below W.heap.size W w') := fun W hb => (rdec_ok W _ 2000 cap X (hBn.below hb) (by omega) (by omega) hc2 l hl).mono (fun e w' q => q.bad hG)
  have HNW : Hid (∀ j u, (u8s l)[j]? = some u → (w.alloc (.cells #[] 5)).cell? (a.add j) = some u) := by
    rw [hl, ← bytes_u8s]
    exact byt_news hBn ((Below.refl w.heap.size w).alloc (Nat.le_refl _) _)
  have HLE : Hid ((u8s l).length = 2000 * 1) := by show _ = _; rw [u8s_length, hll, Nat.mul_one]
  have hLm : L.length ≤ 2000 := by omega
  have hLm' : (L.length : Int) ≤ 2000 := by omega
  clear hG hsm hBn hl hB
  go_enter Try.func4, Try.ntmps4
  go_wp2_with (first
    | (go_at_call 19; refine (HRD.out _ HB2.out).mono ?_; rintro e w3 ⟨rfl, hb3⟩; have HB3 := veil (HB2.out.trans (hb3.mono HB2.out.size)); have t1 := HSY2.out _ hb3; have t2 := HSB.out _ HB3.out; clear hb3)
    | (go_at_call 18; refine (HD.out _ _ _ HO1.out).mono ?_; rintro e w2 ⟨rfl, hb2⟩; have HSY2 := veil (HSY1.out.below hb2); have HB2 := veil (HB1.out.trans (hb2.mono HB1.out.size)); clear hb2)
    | (at_builtin; refine wpList_append_own _ rfl _ _ 24 rfl w.heap.size 5 i0 (.int .u8 0) 1 1 Try.underlying24 hi hz0 hz1 hz2 rfl (by decide) (.slice (some ⟨w.heap.size, 0, none⟩) 0 0) 0 [] rfl (lit_none w _) a 2000 cap (u8s l) rfl HLE.out HNW.out (u8s_one _) (by unfold maxLen; omega) (by omega) (by simp) ?_; intro v1 w1 ho1 hg1 _; have HO1 := veil (own_eq ho1 (show 0 + 2000 = l.length by omega) (List.nil_append _)); have HSY1 := veil (says_u8s HO1.out); have HB1 := veil (((Below.refl w.heap.size w).alloc (Nat.le_refl _) _).grown hg1 (by simp) (fun k hk => (by simp [Value.ownBlock] at hk; omega))); clear ho1 hg1))
  go_loopw [10] (fun i wr => i = .int .i64 0 ∧ wr = w3) (fun _ _ => 0)
  case atStart => exact ⟨rfl, rfl⟩
  case round =>
    obtain ⟨rfl, rfl⟩ := hrel
    have HB4 := HB3
    go_wp2_with (go_at_call 17; refine (HV.out _).mono ?_; rintro e w5 ⟨rfl, hb5⟩; have HB5 := veil (HB4.out.trans (hb5.mono HB4.out.size)); clear hb5)
    go_ret
    exact ⟨rfl, HB5.out⟩
set_option maxHeartbeats 8000000 in
theorem decodes_some_bad (w : World) (a : Addr) (len cap : Nat) (hlen : len ≤ 2000) (hc : len ≤ cap) (hc2 : cap < 9223372036854775808) (X : Nat → Nat) (hB : Byt w (some a) len X) (l : List Nat) (hl : l = (List.range len).map X) (L : List En) (hG : Bad l L) :
    Calls Try.prog 4 #[.slice (some a) len cap] w fun e w' => e = .returned (.bool true) ∧ Below w.heap.size w w' := by
  obtain ⟨i0, hi, hz0, hz1, hz2⟩ := info_parts info_u8
  have HV := veil live_ok'
  have h2000 : ¬ 2000 < (len : Int) := by omega
  have hBn := hB
  have hll : l.length = len := by rw [hl]; simp
  have hLL := bad_le hG
  have hsm := byt_small hBn
  rw [← hl] at hsm
  have HSB : Hid (Says w (.slice (some a) len cap) (strN l)) := by rw [hl]; exact says_byt hBn
  have HD : Hid (∀ W base v, W.ownsRow base 5 1 v l.length (u8s l) → Calls Try.prog 18 #[v] W fun e w' => e = .returned (.tuple #[.slice none 0 0, .int .i64 3, .int .i64 (L.length : Int)]) ∧ Below W.heap.size W w') := fun W base v ho => (dec_row W base v l ho hsm (by omega)).mono (fun e w' q => q.bad hG)
  have HRD : Hid (∀ W, Below w.heap.size w W → Calls Try.prog 19 #[.slice (some a) len cap] W fun e w' => e = .returned (.tuple #[.slice none 0 0, .int .i64 3, .int .i64 (L.length : Int)]) ∧ Below W.heap.size W w') := fun W hb => (rdec_ok W _ len cap X (hBn.below hb) (by omega) (by omega) hc2 l hl).mono (fun e w' q => q.bad hG)
  have HNW : Hid (∀ j u, (u8s l)[j]? = some u → (w.alloc (.cells #[] 5)).cell? (a.add j) = some u) := by
    rw [hl, ← bytes_u8s]
    exact byt_news hBn ((Below.refl w.heap.size w).alloc (Nat.le_refl _) _)
  have HLE : Hid ((u8s l).length = len * 1) := by show _ = _; rw [u8s_length, hll, Nat.mul_one]
  have hLm : L.length ≤ 2000 := by omega
  have hLm' : (L.length : Int) ≤ 2000 := by omega
  clear hG hsm hBn hl hB
  go_enter Try.func4, Try.ntmps4
  go_wp2_with (first
    | (go_at_call 19; refine (HRD.out _ HB2.out).mono ?_; rintro e w3 ⟨rfl, hb3⟩; have HB3 := veil (HB2.out.trans (hb3.mono HB2.out.size)); have t1 := HSY2.out _ hb3; have t2 := HSB.out _ HB3.out; clear hb3)
    | (go_at_call 18; refine (HD.out _ _ _ HO1.out).mono ?_; rintro e w2 ⟨rfl, hb2⟩; have HSY2 := veil (HSY1.out.below hb2); have HB2 := veil (HB1.out.trans (hb2.mono HB1.out.size)); clear hb2)
    | (at_builtin; refine wpList_append_own _ rfl _ _ 24 rfl w.heap.size 5 i0 (.int .u8 0) 1 1 Try.underlying24 hi hz0 hz1 hz2 rfl (by decide) (.slice (some ⟨w.heap.size, 0, none⟩) 0 0) 0 [] rfl (lit_none w _) a len cap (u8s l) rfl HLE.out HNW.out (u8s_one _) (by unfold maxLen; omega) (by omega) (by simp) ?_; intro v1 w1 ho1 hg1 _; have HO1 := veil (own_eq ho1 (show 0 + len = l.length by omega) (List.nil_append _)); have HSY1 := veil (says_u8s HO1.out); have HB1 := veil (((Below.refl w.heap.size w).alloc (Nat.le_refl _) _).grown hg1 (by simp) (fun k hk => (by simp [Value.ownBlock] at hk; omega))); clear ho1 hg1))
  go_loopw [10] (fun i wr => i = .int .i64 0 ∧ wr = w3) (fun _ _ => 0)
  case atStart => exact ⟨rfl, rfl⟩
  case round =>
    obtain ⟨rfl, rfl⟩ := hrel
    have HB4 := HB3
    go_wp2_with (go_at_call 17; refine (HV.out _).mono ?_; rintro e w5 ⟨rfl, hb5⟩; have HB5 := veil (HB4.out.trans (hb5.mono HB4.out.size)); clear hb5)
    go_ret
    exact ⟨rfl, HB5.out⟩
set_option maxHeartbeats 8000000 in
theorem decodes_none_bad (w : World) (cap : Nat) (hc2 : cap < 9223372036854775808) (X : Nat → Nat) (l : List Nat) (hl : l = (List.range 0).map X) (L : List En) (hG : Bad l L) :
    Calls Try.prog 4 #[.slice none 0 cap] w fun e w' => e = .returned (.bool true) ∧ Below w.heap.size w w' := by
  obtain ⟨i0, hi, hz0, hz1, hz2⟩ := info_parts info_u8
  have HV := veil live_ok'
  have hBn : Byt w none 0 X := .inl rfl
  have hll : l.length = 0 := by rw [hl]; simp
  have hLL := bad_le hG
  have hsm := byt_small hBn
  rw [← hl] at hsm
  have HSB : Hid (Says w (.slice none 0 cap) (strN l)) := by rw [hl]; exact says_byt hBn
  have HD : Hid (∀ W base v, W.ownsRow base 5 1 v l.length (u8s l) → Calls Try.prog 18 #[v] W fun e w' => e = .returned (.tuple #[.slice none 0 0, .int .i64 3, .int .i64 (L.length : Int)]) ∧ Below W.heap.size W w') := fun W base v ho => (dec_row W base v l ho hsm (by omega)).mono (fun e w' q => q.bad hG)
  have HRD : Hid (∀ W, Below w.heap.size w W → Calls Try.prog 19 #[.slice none 0 cap] W fun e w' => e = .returned (.tuple #[.slice none 0 0, .int .i64 3, .int .i64 (L.length : Int)]) ∧ Below W.heap.size W w') := fun W hb => (rdec_ok W _ 0 cap X (hBn.below hb) (by omega) (by omega) hc2 l hl).mono (fun e w' q => q.bad hG)
  have HO1 : Hid ((w.alloc (.cells #[] 5)).ownsRow w.heap.size 5 1 (.slice (some ⟨w.heap.size, 0, none⟩) 0 0) l.length (u8s l)) := own_eq (lit_none w 5) hll.symm (by rw [List.length_eq_zero_iff.1 hll]; rfl)
  have HB1 : Hid (Below w.heap.size w (w.alloc (.cells #[] 5))) := (Below.refl w.heap.size w).alloc (Nat.le_refl _) _
  have HSY1 := veil (says_u8s HO1.out)
  have hLm : L.length ≤ 2000 := by omega
  have hLm' : (L.length : Int) ≤ 2000 := by omega
  clear hG hsm hBn hl
  go_enter Try.func4, Try.ntmps4
  go_wp2_with (first
    | (go_at_call 19; refine (HRD.out _ HB2.out).mono ?_; rintro e w3 ⟨rfl, hb3⟩; have HB3 := veil (HB2.out.trans (hb3.mono HB2.out.size)); have t1 := HSY2.out _ hb3; have t2 := HSB.out _ HB3.out; clear hb3)
    | (go_at_call 18; refine (HD.out _ _ _ HO1.out).mono ?_; rintro e w2 ⟨rfl, hb2⟩; have HSY2 := veil (HSY1.out.below hb2); have HB2 := veil (HB1.out.trans (hb2.mono HB1.out.size)); clear hb2))
  go_loopw [10] (fun i wr => i = .int .i64 0 ∧ wr = w3) (fun _ _ => 0)
  case atStart => exact ⟨rfl, rfl⟩
  case round =>
    obtain ⟨rfl, rfl⟩ := hrel
    have HB4 := HB3
    go_wp2_with (go_at_call 17; refine (HV.out _).mono ?_; rintro e w5 ⟨rfl, hb5⟩; have HB5 := veil (HB4.out.trans (hb5.mono HB4.out.size)); clear hb5)
    go_ret
    exact ⟨rfl, HB5.out⟩
end Go.Proofs.Ytnnpbbiiapipaaa
