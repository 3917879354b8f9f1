/-
  script: entries in memory; Encode walked.
-/
import Derived.Test.YtnnpbbiiapipaaaS6
import Derived.Test.YtnnpbbiiapipaaaS4
namespace Go.Proofs.Ytnnpbbiiapipaaa
open Go.RowKit Go.Lib
set_option linter.unusedVariables false
/-- An entry's cells. -/
structure EnAt (w : World) (lb o : Nat) (x : En) (ca : Option Addr) (cc : Nat) : Prop where
  c0 : w.cell? ⟨lb, o, none⟩ = some (.int .i64 x.d)
  c1 : w.cell? ⟨lb, o + 1, none⟩ = some (.int .i64 x.p)
  c2 : w.cell? ⟨lb, o + 2, none⟩ = some (.int .u64 (x.dr : Int))
  c3 : w.cell? ⟨lb, o + 3, none⟩ = some (.int .i64 x.n)
  c4 : w.cell? ⟨lb, o + 4, none⟩ = some (.slice ca x.code.length cc)
  c5 : w.cell? ⟨lb, o + 5, none⟩ = some (.int .u64 (x.bu : Int))
  c6 : w.cell? ⟨lb, o + 6, none⟩ = some (.int .u64 (x.pe : Int))
  c7 : w.cell? ⟨lb, o + 7, none⟩ = some (.int .i64 x.pr)
  c8 : w.cell? ⟨lb, o + 8, none⟩ = some (.int .u8 (x.lv : Int))
  c9 : w.cell? ⟨lb, o + 9, none⟩ = some (.int .i64 x.sv)
  cod : Cod w ca x.code
  len : x.code.length < 9223372036854775808
  cap : x.code.length ≤ 64 ∨ (x.code.length ≤ cc ∧ cc < 9223372036854775808)
  wf : WfE x
theorem EnAt.below {w w' : World} {lb o : Nat} {x : En} {ca : Option Addr} {cc : Nat} (h : EnAt w lb o x ca cc) (hl : lb < w.heap.size) (hb : Below w.heap.size w w') : EnAt w' lb o x ca cc where
  c0 := (hb.cell (p := ⟨lb, o, none⟩) hl).trans h.c0
  c1 := (hb.cell (p := ⟨lb, o + 1, none⟩) hl).trans h.c1
  c2 := (hb.cell (p := ⟨lb, o + 2, none⟩) hl).trans h.c2
  c3 := (hb.cell (p := ⟨lb, o + 3, none⟩) hl).trans h.c3
  c4 := (hb.cell (p := ⟨lb, o + 4, none⟩) hl).trans h.c4
  c5 := (hb.cell (p := ⟨lb, o + 5, none⟩) hl).trans h.c5
  c6 := (hb.cell (p := ⟨lb, o + 6, none⟩) hl).trans h.c6
  c7 := (hb.cell (p := ⟨lb, o + 7, none⟩) hl).trans h.c7
  c8 := (hb.cell (p := ⟨lb, o + 8, none⟩) hl).trans h.c8
  c9 := (hb.cell (p := ⟨lb, o + 9, none⟩) hl).trans h.c9
  cod := h.cod.below hb
  len := h.len
  cap := h.cap
  wf := h.wf
/-- Entries. -/
def Ens (w : World) (a : Option Addr) (L : List En) : Prop :=
  L = [] ∨ ∃ lb off, a = some ⟨lb, off, none⟩ ∧ lb < w.heap.size ∧ ∀ j x, L[j]? = some x → ∃ ca cc, EnAt w lb (off + j * 10) x ca cc
theorem Ens.below {w w' : World} {a : Option Addr} {L : List En} (h : Ens w a L) (hb : Below w.heap.size w w') : Ens w' a L := by
  rcases h with h | ⟨lb, off, rfl, hl, hx⟩
  · exact .inl h
  · exact .inr ⟨lb, off, rfl, Nat.lt_of_lt_of_le hl hb.size, fun j x hj => by
      obtain ⟨ca, cc, q⟩ := hx j x hj
      exact ⟨ca, cc, q.below hl hb⟩⟩
theorem all_le : ∀ (L : List En), (∀ x ∈ L, RightE x) → (all L).length ≤ 258 * L.length
  | [], _ => by simp [all]
  | x :: L, h => by
    have h1 := bytes_le (h x (by simp))
    have h2 := all_le L (fun y hy => h y (by simp [hy]))
    rw [all_cons, List.length_append, List.length_cons]
    omega
theorem take_one {L : List En} {j : Nat} {x : En} (h : L[j]? = some x) : L.take (j + 1) = L.take j ++ [x] := by
  rw [List.take_add_one, h]
  rfl
/-- What Encode answers. -/
def Encs (w : World) (L : List En) (e : Ending) (w' : World) : Prop :=
  Below w.heap.size w w' ∧ (((∀ x ∈ L, RightE x) ∧ ∃ v, e = .returned (.tuple #[v, .int .i64 0]) ∧ w'.ownsRow w.heap.size 5 1 v (all L).length (u8s (all L))) ∨ ((¬ ∀ x ∈ L, RightE x) ∧ e = .returned (.tuple #[.slice none 0 0, .int .i64 3])))
theorem right_yes' (w : World) (x : En) (a : Option Addr) (ca : Nat) (hc : Cod w a x.code) (hl : x.code.length < 9223372036854775808) (hr : RightE x) :
    Calls Try.prog 14 #[.agg #[.int .i64 x.d, .int .i64 x.p, .int .u64 (x.dr : Int), .int .i64 x.n, .slice a x.code.length ca, .int .u64 (x.bu : Int), .int .u64 (x.pe : Int), .int .i64 x.pr, .int .u8 (x.lv : Int), .int .i64 x.sv]] w fun e w' => e = .returned (.bool true) ∧ Below w.heap.size w w' := (right_ok' w x a ca hc hl).mono fun e w' ⟨B, he, hB, hb⟩ => by
  obtain rfl : B = true := hB.2 hr
  exact ⟨he, hb⟩
theorem right_no' (w : World) (x : En) (a : Option Addr) (ca : Nat) (hc : Cod w a x.code) (hl : x.code.length < 9223372036854775808) (hr : ¬ RightE x) :
    Calls Try.prog 14 #[.agg #[.int .i64 x.d, .int .i64 x.p, .int .u64 (x.dr : Int), .int .i64 x.n, .slice a x.code.length ca, .int .u64 (x.bu : Int), .int .u64 (x.pe : Int), .int .i64 x.pr, .int .u8 (x.lv : Int), .int .i64 x.sv]] w fun e w' => e = .returned (.bool false) ∧ Below w.heap.size w w' := (right_ok' w x a ca hc hl).mono fun e w' ⟨B, he, hB, hb⟩ => by
  obtain rfl : B = false := by
    cases B
    · rfl
    · exact absurd (hB.1 rfl) hr
  exact ⟨he, hb⟩
set_option maxHeartbeats 2000000 in
theorem encodes (w : World) (a : Option Addr) (L : List En) (cap : Nat) (hL : L.length ≤ 3000) (hE : Ens w a L) :
    Calls Try.prog 11 #[.slice a L.length cap] w (Encs w L) := by
  have HE := veil hE
  clear hE
  go_enter Try.func11, Try.ntmps11
  go_wp2
  go_loopw [4, 9] (fun s i wr => ∃ (j : Nat), j ≤ L.length ∧ i = .int .i64 j ∧ (∀ x ∈ L.take j, RightE x) ∧ wr.ownsRow w.heap.size 5 1 s (all (L.take j)).length (u8s (all (L.take j))) ∧ Below w.heap.size w wr) (fun _ i _ => L.length - (intOf i).toNat)
  case atStart => exact ⟨0, by omega, rfl, by simp, World.ownsRow_nil _ _ _ _, Below.refl _ _⟩
  case round =>
    obtain ⟨j, hj, rfl, hall, hown, hbel⟩ := hrel
    by_cases hjl : j < L.length
    · have hjl' : (j : Int) < (L.length : Int) := by omega
      obtain ⟨x, hx⟩ : ∃ x, L[j]? = some x := ⟨L[j], List.getElem?_eq_getElem hjl⟩
      rcases HE.out with h0 | ⟨lb, off, rfl, hlb, hc⟩
      · subst h0; simp at hjl
      · obtain ⟨ca, cc, he0⟩ := hc j x hx
        have he := he0.below hlb hbel
        have y0 := he.c0
        have y1 := he.c1
        have y2 := he.c2
        have y3 := he.c3
        have y4 := he.c4
        have y5 := he.c5
        have y6 := he.c6
        have y7 := he.c7
        have y8 := he.c8
        have y9 := he.c9
        have HO := veil hown
        have HB := veil hbel
        have hsz := hbel.size
        have HT : Hid (RightE x → ∀ W v' n' xs', n' < 900000 → W.ownsRow w.heap.size 5 1 v' n' xs' → Below w.heap.size w W → Calls Try.prog 22 #[v', .agg #[.int .i64 x.d, .int .i64 x.p, .int .u64 (x.dr : Int), .int .i64 x.n, .slice ca x.code.length cc, .int .u64 (x.bu : Int), .int .u64 (x.pe : Int), .int .i64 x.pr, .int .u8 (x.lv : Int), .int .i64 x.sv]] W fun e w' => ∃ v2, e = .returned v2 ∧ w'.ownsRow w.heap.size 5 1 v2 (n' + (bytes x).length) (xs' ++ u8s (bytes x)) ∧ Below w.heap.size W w') :=
          fun hr W v' n' xs' hn ho hb => tell_ok W w.heap.size v' n' xs' hn ho hb.size x ca cc hr he.wf (fun W' hb' => he0.cod.below (hb.trans hb'))
        have HN : Hid ((all (L.take j)).length < 900000) := by
          have q := all_le (L.take j) hall
          have q2 : (L.take j).length ≤ j := by simp; omega
          show _ < _
          omega
        have HA := veil hall
        have HTK := veil (take_one hx)
        have HX := veil hx
        by_cases hrt : RightE x
        · have HR := veil (fun W hb => right_yes' W x ca cc (he0.cod.below (w' := W) hb) he.len hrt)
          have HTR := veil (HT.out hrt)
          have HALL : Hid (∀ y ∈ L.take (j + 1), RightE y) := by
            show ∀ y ∈ L.take (j + 1), RightE y
            rw [HTK.out]
            intro y hy
            rcases List.mem_append.1 hy with hy | hy
            · exact hall y hy
            · obtain rfl : y = x := by simpa using hy
              exact hrt
          clear hown hbel hall he he0 hc hx HT hrt
          go_wp2_with (first
            | (go_at_call 22; refine (HTR.out _ _ _ _ HN.out HO1.out HB1.out).mono ?_; rintro e w2 ⟨v2, rfl, ho2, hb2⟩; have HO2 := veil ho2; have HB2 := veil (HB1.out.trans hb2); clear ho2 hb2)
            | (go_at_call 14; refine (HR.out _ (HB.out.alloc hsz _)).mono ?_; rintro e w1 ⟨rfl, hb⟩; have HB1 := veil ((HB.out.alloc hsz _).trans (hb.mono (by simp; omega))); have HO1 := veil (row_below (World.ownsRow.alloc HO.out _) hb); have z0 := box_cell hb 0 _ rfl; have z1 := box_cell hb 1 _ rfl; have z2 := box_cell hb 2 _ rfl; have z3 := box_cell hb 3 _ rfl; have z4 := box_cell hb 4 _ rfl; have z5 := box_cell hb 5 _ rfl; have z6 := box_cell hb 6 _ rfl; have z7 := box_cell hb 7 _ rfl; have z8 := box_cell hb 8 _ rfl; have z9 := box_cell hb 9 _ rfl; clear hb))
          refine ⟨⟨j + 1, by omega, by go_num, HALL.out, own_eq HO2.out ?_ ?_, HB2.out⟩, by simp [intOf]; omega⟩
          · rw [HTK.out, all_one, List.length_append]
          · rw [HTK.out, all_one, u8s_append]
        · have HR := veil (fun W hb => right_no' W x ca cc (he0.cod.below (w' := W) hb) he.len hrt)
          have HALL : Hid (¬ ∀ y ∈ L, RightE y) := fun q => hrt (q x (List.mem_of_getElem? hx))
          clear hown hbel hall he he0 hc hx HT hrt
          go_wp2_with (go_at_call 14; refine (HR.out _ (HB.out.alloc hsz _)).mono ?_; rintro e w1 ⟨rfl, hb⟩; have HB1 := veil ((HB.out.alloc hsz _).trans (hb.mono (by simp; omega))); clear hb)
          go_ret2
          exact ⟨HB1.out, .inr ⟨HALL.out, rfl⟩⟩
    · have hjl' : ¬ (j : Int) < (L.length : Int) := by omega
      have hj2 : j = L.length := by omega
      rw [hj2, List.take_length] at hall hown
      have HA := veil hall
      have HO := veil hown
      have HB := veil hbel
      clear hall hown hbel hj2
      go_wp2
      go_ret2
      exact ⟨HB.out, .inl ⟨HA.out, _, rfl, HO.out⟩⟩
end Go.Proofs.Ytnnpbbiiapipaaa
