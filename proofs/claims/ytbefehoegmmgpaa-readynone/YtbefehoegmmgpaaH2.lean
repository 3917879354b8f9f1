/-
  What a heap's calls answer, over the list that it holds: what is refused, Get, Len, an empty heap.
-/
import Derived.Test.YtbefehoegmmgpaaH1
namespace Go.Proofs.Ytbefehoegmmgpaa.Ph
open Go.RowKit
attribute [local go_sem ↓] Go.wp_at_zero Go.wp_at_succ

section
variable {w : World} {b g n : Nat} {L : List Item}
theorem hnew_ok (n : Nat) (w : World) (h1 : 1 ≤ n) (h2 : n ≤ 1024) :
    Calls Try.prog 53 #[.int .i64 n] w fun e w' => e = .returned (.pointer (some ⟨w.heap.size + 1, 0, none⟩)) ∧ IsH w' (w.heap.size + 1) w.heap.size n [] ∧ Below w.heap.size w w' := by
  refine (new_ok n w h1 h2).mono ?_
  rintro e w' ⟨he, hr, hb⟩
  refine ⟨he, ⟨Good.nil n, fun _ => none, .nil, ⟨_, _, _, _, ⟨⟨_, _, _, hr, trivial, rfl⟩, by simp [BT.wide], trivial, ⟨by simp [BT.spots], by simp [BT.spots]⟩, fun y _ => by simp [BT.spots], by simp [BT.spots]⟩, h2, fun _ _ => rfl, fun _ _ _ => ⟨rfl, rfl⟩⟩, rfl, fun _ _ _ _ => by simp⟩, hb⟩
theorem hmin_none (h : IsH w b g n []) :
    Calls Try.prog 66 #[.pointer (some ⟨b, 0, none⟩)] w fun e w' => e = .returned (.tuple #[.int .i64 0, .bool false]) ∧ w' = w := by
  obtain ⟨t, D, S, I, C, A, B, T, hR, ht, _⟩ := h.rep
  rw [ht rfl] at hR
  exact min_none hR
theorem htake_none (h : IsH w b g n []) :
    Calls Try.prog 55 #[.pointer (some ⟨b, 0, none⟩)] w fun e w' => e = .returned (.tuple #[.int .i64 0, .bool false]) ∧ w' = w := by
  obtain ⟨t, D, S, I, C, A, B, T, hR, ht, _⟩ := h.rep
  rw [ht rfl] at hR
  exact take_none hR
theorem hinsert_range (h : IsH w b g n L) (id d s : Int) (hid : id < 0 ∨ (n : Int) ≤ id) :
    Calls Try.prog 73 #[.pointer (some ⟨b, 0, none⟩), .int .i64 id, .int .u64 d, .int .u64 s] w fun e w' => e = .returned (.int .i64 2) ∧ w' = w := by
  obtain ⟨t, D, S, I, C, A, B, T, hR, _⟩ := h.rep
  exact insert_range hR id d s (by omega) h.nle
theorem hdelete_range (h : IsH w b g n L) (id : Int) (hid : id < 0 ∨ (n : Int) ≤ id) :
    Calls Try.prog 51 #[.pointer (some ⟨b, 0, none⟩), .int .i64 id] w fun e w' => e = .returned (.int .i64 2) ∧ w' = w := by
  obtain ⟨t, D, S, I, C, A, B, T, hR, _⟩ := h.rep
  exact delete_range hR id (by omega) h.nle
theorem hinsert_known (h : IsH w b g n L) (id : Nat) (d s : Int) (hid : ∃ it ∈ L, it.1 = id) :
    Calls Try.prog 73 #[.pointer (some ⟨b, 0, none⟩), .int .i64 (id : Int), .int .u64 d, .int .u64 s] w fun e w' => e = .returned (.int .i64 5) ∧ w' = w := by
  obtain ⟨t, D, S, I, C, A, B, T, hR, _, _, _, hT, _⟩ := h.rep
  have hi : id < n := by
    obtain ⟨it, hm, rfl⟩ := hid
    exact h.good.rng it hm
  exact insert_known hR id d s hi h.nle ((hT id hi).2 hid)
theorem hdelete_none (h : IsH w b g n L) (id : Nat) (hi : id < n) (hid : ∀ it ∈ L, it.1 ≠ id) :
    Calls Try.prog 51 #[.pointer (some ⟨b, 0, none⟩), .int .i64 (id : Int)] w fun e w' => e = .returned (.int .i64 6) ∧ w' = w := by
  obtain ⟨t, D, S, I, C, A, B, T, hR, _, _, _, hT, _⟩ := h.rep
  refine delete_none hR id hi h.nle ?_
  cases hh : T (id + 1) with
  | false => rfl
  | true =>
    obtain ⟨it, hm, e⟩ := (hT id hi).1 hh
    exact absurd e (hid it hm)
theorem hlen_ok (h : IsH w b g n L) :
    Calls Try.prog 39 #[.pointer (some ⟨b, 0, none⟩)] w fun e w' => e = .returned (.int .i64 (L.length : Int)) ∧ w' = w := by
  obtain ⟨t, D, S, I, C, A, B, T, hR, _⟩ := h.rep
  have e2 := hR.ct
  clear hR h
  go_enter Try.func39, Try.ntmps39
  go_wp2
  go_ret
  exact ⟨rfl, rfl⟩
theorem hget_range (h : IsH w b g n L) (id : Int) (hid : id < 0 ∨ (n : Int) ≤ id) :
    Calls Try.prog 58 #[.pointer (some ⟨b, 0, none⟩), .int .i64 id] w fun e w' => e = .returned (.tuple #[.int .u64 0, .int .u64 0, .bool false]) ∧ w' = w := by
  obtain ⟨t, D, S, I, C, A, B, T, hR, _⟩ := h.rep
  have HM := veil (may_no hR id (by omega) h.nle)
  clear hR h hid
  go_enter Try.func58, Try.ntmps58
  go_wp2_with (go_at_call 70; refine (HM.out).mono ?_; rintro e w1 ⟨rfl, hw⟩; replace hw := hw.symm; subst hw)
  go_ret3
  exact ⟨rfl, rfl⟩
set_option maxHeartbeats 1000000 in
theorem get_rep {rt ct : Nat} {D S I C A B : Nat → Nat} {T : Nat → Bool} (h : Rep w b g n rt ct D S I C A B T) (id : Nat) (hi : id < n) (hn : n ≤ 1024) :
    Calls Try.prog 58 #[.pointer (some ⟨b, 0, none⟩), .int .i64 id] w fun e w' => e = .returned (.tuple #[.int .u64 (D (id + 1) : Nat), .int .u64 (S (id + 1) : Nat), .bool (T (id + 1))]) ∧ Below w.heap.size w w' := by
  have HM := veil (may_yes h id hn hi)
  obtain ⟨cp, e0⟩ := h.sl
  have c0 := h.nd (id + 1) (by omega)
  have c1 := h.ns (id + 1) (by omega)
  have c2 := h.ni (id + 1) (by omega)
  have c3 := h.nc (id + 1) (by omega)
  have c4 := h.na (id + 1) (by omega)
  have c5 := h.nb (id + 1) (by omega)
  have c6 := h.nt (id + 1) (by omega)
  clear h
  generalize D (id + 1) = d at *
  generalize S (id + 1) = s at *
  generalize I (id + 1) = i at *
  generalize C (id + 1) = c at *
  generalize A (id + 1) = a at *
  generalize B (id + 1) = bb at *
  generalize T (id + 1) = t at *
  go_enter Try.func58, Try.ntmps58
  go_wp2_with (go_at_call 70; refine (HM.out).mono ?_; rintro e w1 ⟨rfl, hw⟩; replace hw := hw.symm; subst hw)
  go_quiet (fail)
  go_wp2
  go_ret3
  exact ⟨rfl, below_drewN ((Below.refl _ _).alloc (Nat.le_refl _) _) _⟩
theorem hget_none (h : IsH w b g n L) (id : Nat) (hi : id < n) (hid : ∀ it ∈ L, it.1 ≠ id) :
    Calls Try.prog 58 #[.pointer (some ⟨b, 0, none⟩), .int .i64 id] w fun e w' => e = .returned (.tuple #[.int .u64 0, .int .u64 0, .bool false]) ∧ Below w.heap.size w w' := by
  obtain ⟨t, D, S, I, C, A, B, T, hR, _, hn, hW, hT, _⟩ := h.rep
  have hf : T (id + 1) = false := by
    cases hh : T (id + 1) with
    | false => rfl
    | true =>
      obtain ⟨it, hm, e⟩ := (hT id hi).1 hh
      exact absurd e (hid it hm)
  have hg := get_rep hR id hi hn
  rw [hf, (hW id hi hf).1, (hW id hi hf).2] at hg
  exact hg
theorem hget_some (h : IsH w b g n L) (id d s : Nat) (hid : (id, d, s) ∈ L) :
    Calls Try.prog 58 #[.pointer (some ⟨b, 0, none⟩), .int .i64 id] w fun e w' => e = .returned (.tuple #[.int .u64 d, .int .u64 s, .bool true]) ∧ Below w.heap.size w w' := by
  obtain ⟨t, D, S, I, C, A, B, T, hR, _, hn, hW, hT, hm⟩ := h.rep
  have hi := h.good.rng _ hid
  have hf : T (id + 1) = true := (hT id hi).2 ⟨_, hid, rfl⟩
  have he := h.good.uniq (hm id hi hf) hid rfl
  injection he with _ he
  injection he with he1 he2
  have hg := get_rep hR id hi hn
  rw [hf, he1, he2] at hg
  exact hg
end
end Go.Proofs.Ytbefehoegmmgpaa.Ph
