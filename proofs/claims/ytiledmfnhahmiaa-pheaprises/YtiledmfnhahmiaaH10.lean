/-
  The program's Fork and List, over the list that a heap holds.
-/
import Derived.Test.YtiledmfnhahmiaaH9
namespace Go.Proofs.Ytiledmfnhahmiaa
open Go.RowKit Go.Lib

theorem hfork_ok {w : World} {b g n : Nat} {L : List Item} (h : IsH w b g n L) :
    Calls Try.prog 19 #[.pointer (some ⟨b, 0, none⟩)] w fun e w' => ∃ b' g', e = .returned (.pointer (some ⟨b', 0, none⟩)) ∧ w.heap.size ≤ b' ∧ w.heap.size ≤ g' ∧ IsH w' b' g' n L ∧ Below w.heap.size w w' := by
  obtain ⟨h0, m, t, ⟨D, S, I, T, h1, hn, h4, h5⟩, h2, h3⟩ := h
  obtain ⟨C, A, B, hR, hrow, hB⟩ := h1.lk
  refine (fork_walk hR hn).mono ?_
  rintro e w' ⟨b', g', he, k1, k2, k3, k4⟩
  exact ⟨b', g', he, k1, k2, ⟨h0, m, t, ⟨D, S, I, T, ⟨⟨C, A, B, k3, hrow, hB⟩, h1.wd, h1.od, h1.sp, h1.th, h1.id⟩, hn, h4, h5⟩, h2, h3⟩, k4⟩

def lenOf : Value → Nat
  | .slice _ n _ => n
  | _ => 0
/-- What List's loop keeps: the ids that were taken, what the copy holds yet, and what the last Take told. -/
def LSt (wr : World) (base b g n : Nat) (L : List Item) (o id ok : Value) : Prop :=
  ∃ (pre rest : List Item), IL wr base o (idsL pre) ∧ IsH wr b g n rest ∧
    ((ok = .bool false ∧ rest = [] ∧ L = pre ∧ id = .int .i64 0) ∨ (ok = .bool true ∧ ∃ x : Item, L = pre ++ x :: rest ∧ id = .int .i64 (x.1 : Int)))
theorem htake_any {w : World} {b g n : Nat} {rest : List Item} (h : IsH w b g n rest) :
    Calls Try.prog 17 #[.pointer (some ⟨b, 0, none⟩)] w fun e w' => ∃ id ok, e = .returned (.tuple #[.int .i64 id, .bool ok]) ∧ Only b g w w' ∧ ((ok = false ∧ rest = [] ∧ id = 0 ∧ IsH w' b g n []) ∨ (ok = true ∧ ∃ (x : Item) (rest' : List Item), rest = x :: rest' ∧ id = (x.1 : Int) ∧ IsH w' b g n rest')) := by
  cases rest with
  | nil =>
    refine (htake_none h).mono ?_
    rintro e w' ⟨he, rfl⟩
    exact ⟨0, false, he, Only.refl _ _ _, .inl ⟨rfl, rfl, rfl, h⟩⟩
  | cons x rest =>
    refine (htake_ok h).mono ?_
    rintro e w' ⟨he, hh, ho⟩
    exact ⟨_, true, he, ho, .inr ⟨rfl, x, rest, rfl, rfl, hh⟩⟩

set_option maxHeartbeats 2000000 in
theorem hlist_ok {w : World} {b g n : Nat} {L : List Item} (h : IsH w b g n L) :
    Calls Try.prog 14 #[.pointer (some ⟨b, 0, none⟩)] w fun e w' => ∃ v, e = .returned v ∧ IL w' w.heap.size v (idsL L) ∧ Below w.heap.size w w' := by
  obtain ⟨i0, hi0, hz0, hz1, hz2⟩ := info_parts infoInt
  have hlen : L.length ≤ 1024 := Nat.le_trans h.good.len h.nle
  have HF := veil (hfork_ok h)
  clear h
  go_enter Try.func14, Try.ntmps14
  go_wp2_with (first
    | (go_at_call 19; refine (HF.out).mono ?_; rintro e w1 ⟨b', g', rfl, k1, k2, k3, k4⟩; have HT := veil (htake_any k3); have hb3 := k3.blocks; have HB4 := veil k4; have s1 := k4.size; clear k3 k4)
    | (go_at_call 17; refine (HT.out).mono ?_; rintro e w2 ⟨id0, ok0, rfl, ho, hc⟩; have HC := veil hc; have HB := veil (HB4.out.trans (ho.below k1 k2 s1)); have s2 := ho.size; clear ho hc))
  go_loopw [3, 5, 6] (fun o id ok wr => LSt wr w1.heap.size b' g' n L o id ok ∧ Below w.heap.size w wr ∧ w1.heap.size ≤ wr.heap.size) (fun o _ ok _ => L.length - lenOf o)
  case atStart =>
    refine ⟨?_, HB.out, s2⟩
    rcases HC.out with ⟨rfl, e1, rfl, hh⟩ | ⟨rfl, x, rest, e1, rfl, hh⟩
    · subst e1
      exact ⟨[], [], World.ownsRow_nil _ _ _ _, hh, .inl ⟨rfl, rfl, rfl, rfl⟩⟩
    · exact ⟨[], rest, World.ownsRow_nil _ _ _ _, hh, .inr ⟨rfl, x, e1, rfl⟩⟩
  case round =>
    obtain ⟨⟨pre, rest, hil, hh, hcase⟩, hbel, hsz⟩ := hrel
    obtain ⟨ao, co, rfl⟩ := hil.slice
    rcases hcase with ⟨rfl, rfl, rfl, rfl⟩ | ⟨rfl, x, rfl, rfl⟩
    · have HIL := veil hil
      have HBE := veil hbel
      clear hil hbel hh HC HB HT
      go_wp2
      go_ret
      exact ⟨_, rfl, ownsRow_base HIL.out s1, HBE.out⟩
    · have hpl : (idsL pre).length ≤ 1024 := by rw [idsL_len]; rw [List.length_append] at hlen; omega
      have HIL := veil hil
      have HBE := veil hbel
      have HH := veil hh
      have hHS := hh.blocks
      have HTK : Hid (∀ W, W.heap[b']? = wr.heap[b']? → W.heap[g']? = wr.heap[g']? → Calls Try.prog 17 #[.pointer (some ⟨b', 0, none⟩)] W fun e w' => ∃ id ok, e = .returned (.tuple #[.int .i64 id, .bool ok]) ∧ Only b' g' W w' ∧ ((ok = false ∧ rest = [] ∧ id = 0 ∧ IsH w' b' g' n []) ∨ (ok = true ∧ ∃ (x : Item) (rest' : List Item), rest = x :: rest' ∧ id = (x.1 : Int) ∧ IsH w' b' g' n rest'))) := fun W q1 q2 => htake_any (hh.kept q1 q2)
      clear hil hbel hh HC HB HT
      have hbw : b' < w1.heap.size := hb3.1
      have hgw : g' < w1.heap.size := hb3.2.1
      go_wp2_with (first
        | (at_builtin; refine wpList_append_own _ rfl _ _ 30 rfl w1.heap.size 3 i0 (.int .i64 0) 1 8 Try.underlying30 hi0 hz0 hz1 hz2 rfl (by decide) _ _ _ rfl (World.ownsRow.alloc HIL.out _) ⟨wr.heap.size, 0, none⟩ 1 1 [.int .i64 (x.1 : Int)] rfl rfl (cell_one_new _ _ _) (by simp [Value.oneCell']) (by unfold maxLen; omega) (by omega) (by simp; omega) ?_; intro v' w3 hown' hgrow _; have kb : w3.heap[b']? = wr.heap[b']? := (hgrow.block b' (by simp; omega) (fun q => by have := (World.ownsRow.lt HIL.out b' q.symm).1; omega)).trans (Below.heap_alloc _ _ _ hHS.1); have kg : w3.heap[g']? = wr.heap[g']? := (hgrow.block g' (by simp; omega) (fun q => by have := (World.ownsRow.lt HIL.out g' q.symm).1; omega)).trans (Below.heap_alloc _ _ _ hHS.2.1); have HT3 := veil (HTK.out w3 kb kg); obtain ⟨a3, d3, rfl⟩ := owns_slice hown'; have HO := veil hown'; have HBG := veil ((HBE.out.alloc (Nat.le_trans s1 hsz) _).grown hgrow (by simp; omega) (fun k hk => Nat.le_trans s1 (World.ownsRow.lt HIL.out k hk).1)); have hs3 : wr.heap.size + 1 ≤ w3.heap.size := (by have := hgrow.size; simpa using this); clear hown' hgrow kb kg)
        | (go_at_call 17; refine (HT3.out).mono ?_; rintro e w4 ⟨id4, ok4, rfl, ho, hc⟩; have HC4 := veil hc; have HO4 := veil ho; clear ho hc))
      go_roundw
      case rel =>
        have hil4 : IL w4 w1.heap.size (.slice a3 ((idsL pre).length + 1) d3) (idsL (pre ++ [x])) := by
          have q := owns_fr HO.out (Fr.of_only HO4.out) (fun k hk _ q => by omega)
          unfold IL idsL
          unfold idsL at q
          simpa using q
        refine ⟨?_, HBG.out.trans (HO4.out.below k1 k2 (by omega)), by have := HO4.out.size; omega⟩
        rcases HC4.out with ⟨rfl, rfl, rfl, hh⟩ | ⟨rfl, y, rest', rfl, rfl, hh⟩
        · exact ⟨pre ++ [x], [], hil4, hh, .inl ⟨rfl, rfl, rfl, rfl⟩⟩
        · exact ⟨pre ++ [x], rest', hil4, hh, .inr ⟨rfl, y, by simp, rfl⟩⟩
      case measure =>
        have := idsL_len pre
        simp [lenOf]
        omega
end Go.Proofs.Ytiledmfnhahmiaa
