/-
  prog: the document's right and Check walked, right, few.
-/
import Derived.Test.YtnnpbbiiapipaaaO2
namespace Go.Proofs.Ytnnpbbiiapipaaa
open Go.RowKit Go.Lib

theorem right1 (n x : Int) (w : World) : Calls Try.prog 40 #[.agg #[.int .i64 1, .int .i64 x], .int .i64 n] w fun e w' => e = .returned (.bool (okI n 1 x)) ∧ Below w.heap.size w w' := by
  by_cases h1 : 1 ≤ x
  · by_cases h2 : x ≤ 65536
    · have hk : okI n 1 x = true := by simp [okI, known, lo, hi]; omega
      go_enter Try.func40, Try.ntmps40
      go_wp2
      go_ret
      exact ⟨by first | rfl | (rw [hk]; rfl), (Below.refl _ _).alloc (Nat.le_refl _) _⟩
    · have hk : okI n 1 x = false := by simp [okI, known, lo, hi]; omega
      go_enter Try.func40, Try.ntmps40
      go_wp2
      go_ret
      exact ⟨by first | rfl | (rw [hk]; rfl), (Below.refl _ _).alloc (Nat.le_refl _) _⟩
  · have hk : okI n 1 x = false := by simp [okI, known, lo, hi]; omega
    go_enter Try.func40, Try.ntmps40
    go_wp2
    go_ret
    exact ⟨by first | rfl | (rw [hk]; rfl), (Below.refl _ _).alloc (Nat.le_refl _) _⟩
theorem right2 (n x : Int) (w : World) : Calls Try.prog 40 #[.agg #[.int .i64 2, .int .i64 x], .int .i64 n] w fun e w' => e = .returned (.bool (okI n 2 x)) ∧ Below w.heap.size w w' := by
  by_cases h1 : 0 ≤ x
  · by_cases h2 : x < 32
    · have hk : okI n 2 x = true := by simp [okI, known, lo, hi]; omega
      go_enter Try.func40, Try.ntmps40
      go_wp2
      go_ret
      exact ⟨by first | rfl | (rw [hk]; rfl), (Below.refl _ _).alloc (Nat.le_refl _) _⟩
    · have hk : okI n 2 x = false := by simp [okI, known, lo, hi]; omega
      go_enter Try.func40, Try.ntmps40
      go_wp2
      go_ret
      exact ⟨by first | rfl | (rw [hk]; rfl), (Below.refl _ _).alloc (Nat.le_refl _) _⟩
  · have hk : okI n 2 x = false := by simp [okI, known, lo, hi]; omega
    go_enter Try.func40, Try.ntmps40
    go_wp2
    go_ret
    exact ⟨by first | rfl | (rw [hk]; rfl), (Below.refl _ _).alloc (Nat.le_refl _) _⟩
theorem right3 (n x : Int) (w : World) : Calls Try.prog 40 #[.agg #[.int .i64 3, .int .i64 x], .int .i64 n] w fun e w' => e = .returned (.bool (okI n 3 x)) ∧ Below w.heap.size w w' := by
  by_cases h1 : 0 ≤ x
  · by_cases h2 : x < 32
    · have hk : okI n 3 x = true := by simp [okI, known, lo, hi]; omega
      go_enter Try.func40, Try.ntmps40
      go_wp2
      go_ret
      exact ⟨by first | rfl | (rw [hk]; rfl), (Below.refl _ _).alloc (Nat.le_refl _) _⟩
    · have hk : okI n 3 x = false := by simp [okI, known, lo, hi]; omega
      go_enter Try.func40, Try.ntmps40
      go_wp2
      go_ret
      exact ⟨by first | rfl | (rw [hk]; rfl), (Below.refl _ _).alloc (Nat.le_refl _) _⟩
  · have hk : okI n 3 x = false := by simp [okI, known, lo, hi]; omega
    go_enter Try.func40, Try.ntmps40
    go_wp2
    go_ret
    exact ⟨by first | rfl | (rw [hk]; rfl), (Below.refl _ _).alloc (Nat.le_refl _) _⟩
theorem right4 (n x : Int) (w : World) : Calls Try.prog 40 #[.agg #[.int .i64 4, .int .i64 x], .int .i64 n] w fun e w' => e = .returned (.bool (okI n 4 x)) ∧ Below w.heap.size w w' := by
  by_cases h1 : 0 ≤ x
  · by_cases h2 : x < 16
    · have hk : okI n 4 x = true := by simp [okI, known, lo, hi]; omega
      go_enter Try.func40, Try.ntmps40
      go_wp2
      go_ret
      exact ⟨by first | rfl | (rw [hk]; rfl), (Below.refl _ _).alloc (Nat.le_refl _) _⟩
    · have hk : okI n 4 x = false := by simp [okI, known, lo, hi]; omega
      go_enter Try.func40, Try.ntmps40
      go_wp2
      go_ret
      exact ⟨by first | rfl | (rw [hk]; rfl), (Below.refl _ _).alloc (Nat.le_refl _) _⟩
  · have hk : okI n 4 x = false := by simp [okI, known, lo, hi]; omega
    go_enter Try.func40, Try.ntmps40
    go_wp2
    go_ret
    exact ⟨by first | rfl | (rw [hk]; rfl), (Below.refl _ _).alloc (Nat.le_refl _) _⟩
theorem right5 (n x : Int) (w : World) : Calls Try.prog 40 #[.agg #[.int .i64 5, .int .i64 x], .int .i64 n] w fun e w' => e = .returned (.bool (okI n 5 x)) ∧ Below w.heap.size w w' := by
  by_cases h1 : 1 ≤ x
  · by_cases h2 : x ≤ 65536
    · have hk : okI n 5 x = true := by simp [okI, known, lo, hi]; omega
      go_enter Try.func40, Try.ntmps40
      go_wp2
      go_ret
      exact ⟨by first | rfl | (rw [hk]; rfl), (Below.refl _ _).alloc (Nat.le_refl _) _⟩
    · have hk : okI n 5 x = false := by simp [okI, known, lo, hi]; omega
      go_enter Try.func40, Try.ntmps40
      go_wp2
      go_ret
      exact ⟨by first | rfl | (rw [hk]; rfl), (Below.refl _ _).alloc (Nat.le_refl _) _⟩
  · have hk : okI n 5 x = false := by simp [okI, known, lo, hi]; omega
    go_enter Try.func40, Try.ntmps40
    go_wp2
    go_ret
    exact ⟨by first | rfl | (rw [hk]; rfl), (Below.refl _ _).alloc (Nat.le_refl _) _⟩
theorem right7 (n x : Int) (w : World) : Calls Try.prog 40 #[.agg #[.int .i64 7, .int .i64 x], .int .i64 n] w fun e w' => e = .returned (.bool (okI n 7 x)) ∧ Below w.heap.size w w' := by
  by_cases h1 : 0 ≤ x
  · by_cases h2 : x < 256
    · have hk : okI n 7 x = true := by simp [okI, known, lo, hi]; omega
      go_enter Try.func40, Try.ntmps40
      go_wp2
      go_ret
      exact ⟨by first | rfl | (rw [hk]; rfl), (Below.refl _ _).alloc (Nat.le_refl _) _⟩
    · have hk : okI n 7 x = false := by simp [okI, known, lo, hi]; omega
      go_enter Try.func40, Try.ntmps40
      go_wp2
      go_ret
      exact ⟨by first | rfl | (rw [hk]; rfl), (Below.refl _ _).alloc (Nat.le_refl _) _⟩
  · have hk : okI n 7 x = false := by simp [okI, known, lo, hi]; omega
    go_enter Try.func40, Try.ntmps40
    go_wp2
    go_ret
    exact ⟨by first | rfl | (rw [hk]; rfl), (Below.refl _ _).alloc (Nat.le_refl _) _⟩
theorem right8 (n x : Int) (w : World) : Calls Try.prog 40 #[.agg #[.int .i64 8, .int .i64 x], .int .i64 n] w fun e w' => e = .returned (.bool (okI n 8 x)) ∧ Below w.heap.size w w' := by
  by_cases h1 : 0 ≤ x
  · by_cases h2 : x < n
    · have hk : okI n 8 x = true := by simp [okI, known, lo, hi]; omega
      go_enter Try.func40, Try.ntmps40
      go_wp2
      go_ret
      exact ⟨by first | rfl | (rw [hk]; rfl), (Below.refl _ _).alloc (Nat.le_refl _) _⟩
    · have hk : okI n 8 x = false := by simp [okI, known, lo, hi]; omega
      go_enter Try.func40, Try.ntmps40
      go_wp2
      go_ret
      exact ⟨by first | rfl | (rw [hk]; rfl), (Below.refl _ _).alloc (Nat.le_refl _) _⟩
  · have hk : okI n 8 x = false := by simp [okI, known, lo, hi]; omega
    go_enter Try.func40, Try.ntmps40
    go_wp2
    go_ret
    exact ⟨by first | rfl | (rw [hk]; rfl), (Below.refl _ _).alloc (Nat.le_refl _) _⟩
theorem right6 (n x : Int) (w : World) : Calls Try.prog 40 #[.agg #[.int .i64 6, .int .i64 x], .int .i64 n] w fun e w' => e = .returned (.bool (okI n 6 x)) ∧ Below w.heap.size w w' := by
  have hk : okI n 6 x = (x == 0) := by
    by_cases h : x = 0
    · subst h; rfl
    · rw [show (x == 0) = false by simpa using h]
      simp [okI, known, lo, hi]
      omega
  go_enter Try.func40, Try.ntmps40
  go_wp2
  go_ret
  exact ⟨by first | rfl | (rw [hk]; rfl), (Below.refl _ _).alloc (Nat.le_refl _) _⟩
theorem right9 (n x : Int) (w : World) : Calls Try.prog 40 #[.agg #[.int .i64 9, .int .i64 x], .int .i64 n] w fun e w' => e = .returned (.bool (okI n 9 x)) ∧ Below w.heap.size w w' := by
  have hk : okI n 9 x = (x == 0) := by
    by_cases h : x = 0
    · subst h; rfl
    · rw [show (x == 0) = false by simpa using h]
      simp [okI, known, lo, hi]
      omega
  go_enter Try.func40, Try.ntmps40
  go_wp2
  go_ret
  exact ⟨by first | rfl | (rw [hk]; rfl), (Below.refl _ _).alloc (Nat.le_refl _) _⟩
theorem right_none (n op x : Int) (w : World) (h : known op = false) : Calls Try.prog 40 #[.agg #[.int .i64 op, .int .i64 x], .int .i64 n] w fun e w' => e = .returned (.bool (okI n op x)) ∧ Below w.heap.size w w' := by
  have hk : okI n op x = false := by simp [okI, h]
  have hq : op < 1 ∨ 9 < op := by simp [known] at h; omega
  have b1 : (op == 1) = false := by simp; omega
  have b2 : (op == 2) = false := by simp; omega
  have b3 : (op == 3) = false := by simp; omega
  have b4 : (op == 4) = false := by simp; omega
  have b5 : (op == 5) = false := by simp; omega
  have b6 : (op == 6) = false := by simp; omega
  have b7 : (op == 7) = false := by simp; omega
  have b8 : (op == 8) = false := by simp; omega
  have b9 : (op == 9) = false := by simp; omega
  have HK := veil hk
  clear hk hq h
  go_enter Try.func40, Try.ntmps40
  go_wp2
  go_ret
  exact ⟨by rw [HK.out]; rfl, (Below.refl _ _).alloc (Nat.le_refl _) _⟩
theorem rright_ok (n op x : Int) (w : World) : Calls Try.prog 40 #[.agg #[.int .i64 op, .int .i64 x], .int .i64 n] w fun e w' => e = .returned (.bool (okI n op x)) ∧ Below w.heap.size w w' := by
  cases h : known op with
  | false => exact right_none n op x w h
  | true =>
    have : op = 1 ∨ op = 2 ∨ op = 3 ∨ op = 4 ∨ op = 5 ∨ op = 6 ∨ op = 7 ∨ op = 8 ∨ op = 9 := by simp [known] at h; omega
    rcases this with rfl | rfl | rfl | rfl | rfl | rfl | rfl | rfl | rfl
    · exact right1 n x w
    · exact right2 n x w
    · exact right3 n x w
    · exact right4 n x w
    · exact right5 n x w
    · exact right6 n x w
    · exact right7 n x w
    · exact right8 n x w
    · exact right9 n x w

set_option maxRecDepth 100000 in
theorem rcheck_ok (w : World) (a : Option Addr) (len cap : Nat) (hlen : len < 9223372036854775808) (O R : Nat → Int) (hp : Prg w a len O R) :
    Calls Try.prog 27 #[.slice a len cap] w fun e w' => ∃ x y : Int, e = .returned (.tuple #[.int .i64 x, .int .i64 y]) ∧ Chk len O R x y ∧ Below w.heap.size w w' := by
  by_cases hl1 : len < 1
  · have hl1' : (len : Int) < 1 := by omega
    go_enter Try.func27, Try.ntmps27
    go_wp2
    go_ret2
    exact ⟨_, _, rfl, .inl ⟨.inl hl1, rfl, rfl⟩, Below.refl _ _⟩
  by_cases hl2 : 64 < len
  · have hl1' : ¬ (len : Int) < 1 := by omega
    have hl2' : 64 < (len : Int) := by omega
    go_enter Try.func27, Try.ntmps27
    go_wp2
    go_ret2
    exact ⟨_, _, rfl, .inl ⟨.inr hl2, rfl, rfl⟩, Below.refl _ _⟩
  have hl1' : ¬ (len : Int) < 1 := by omega
  have hl2' : ¬ 64 < (len : Int) := by omega
  have HP := veil hp
  clear hp
  go_enter Try.func27, Try.ntmps27
  go_wp2
  go_loopw [5] (fun i wr => ∃ (j : Nat), j ≤ len ∧ i = .int .i64 j ∧ (∀ k, k < j → okI len (O k) (R k) = true) ∧ Below w.heap.size w wr) (fun i _ => len - (intOf i).toNat)
  case atStart => exact ⟨0, by omega, rfl, fun k hk => by omega, Below.refl _ _⟩
  case round =>
    obtain ⟨j, hj, rfl, hall, hbel⟩ := hrel
    by_cases hjl : j < len
    · have hjl' : (j : Int) < (len : Int) := by omega
      rcases HP.out with h0 | ⟨lb, off, rfl, hlb, hc⟩
      · omega
      · obtain ⟨z1, z2⟩ := hc j hjl
        have y1 := (hbel.cell (p := ⟨lb, off + j * 2, none⟩) hlb).trans z1
        have y2 := (hbel.cell (p := ⟨lb, off + j * 2 + 1, none⟩) hlb).trans z2
        have HB := veil hbel
        have HA := veil hall
        clear hc z1 z2 hbel hall
        have HH := veil (fun W => rright_ok len (O j) (R j) W)
        cases hin : okI len (O j) (R j) with
        | false =>
          rw [hin] at HH
          go_wp2_with (go_at_call 40; refine (HH.out _).mono ?_; rintro e w2 ⟨rfl, hb⟩; have HB2 := veil hb; clear hb)
          go_ret2
          exact ⟨_, _, rfl, .inr (.inl ⟨by omega, by omega, j, hjl, HA.out, hin, rfl, rfl⟩), HB.out.trans (HB2.out.mono HB.out.size)⟩
        | true =>
          rw [hin] at HH
          go_wp2_with (go_at_call 40; refine (HH.out _).mono ?_; rintro e w2 ⟨rfl, hb⟩; have HB2 := veil hb; clear hb)
          go_roundw
          case rel =>
            refine ⟨j + 1, by omega, by go_num, fun k hk' => ?_, HB.out.trans (HB2.out.mono HB.out.size)⟩
            by_cases q : k = j
            · subst q; exact hin
            · exact HA.out k (by omega)
          case measure => simp [intOf]; omega
    · have hjl' : ¬ (j : Int) < (len : Int) := by omega
      obtain rfl : j = len := by omega
      rcases HP.out with h0 | ⟨lb, off, rfl, hlb, hc⟩
      · omega
      obtain ⟨z1, _⟩ := hc (j - 1) (by omega)
      have y1 := (hbel.cell (p := ⟨lb, off + (j - 1) * 2, none⟩) hlb).trans z1
      have HB := veil hbel
      have HA := veil hall
      clear hc z1 hbel hall
      obtain ⟨n, rfl⟩ : ∃ n, j = n + 1 := ⟨j - 1, by omega⟩
      have e1 : ((n + 1 : Nat) : Int) - 1 = (n : Nat) := by omega
      have e2 : (n : Int) < ((n + 1 : Nat) : Int) := by omega
      simp only [Nat.add_sub_cancel] at y1
      by_cases h8 : O n = 8
      · go_wp2
        go_ret2
        exact ⟨_, _, rfl, .inr (.inr (.inr ⟨by omega, by omega, HA.out, .inl h8, rfl, rfl⟩)), HB.out⟩
      · by_cases h9 : O n = 9
        · go_wp2
          go_ret2
          exact ⟨_, _, rfl, .inr (.inr (.inr ⟨by omega, by omega, HA.out, .inr h9, rfl, rfl⟩)), HB.out⟩
        · have b8 : (O n != 8) = true := by simpa using h8
          have b9 : (O n != 9) = true := by simpa using h9
          go_wp2
          go_ret2
          exact ⟨_, _, rfl, .inr (.inr (.inl ⟨by omega, by omega, HA.out, h8, h9, rfl, by go_num⟩)), HB.out⟩

theorem right_ok (w : World) (a : Option Addr) (len cap : Nat) (hlen : len < 9223372036854775808) (O R : Nat → Int) (hp : Prg w a len O R) :
    Calls Try.prog 45 #[.slice a len cap] w fun e w' => ∃ x y : Int, e = .returned (.bool (x == 0)) ∧ Chk len O R x y ∧ Below w.heap.size w w' := by
  have HC := veil (check_ok w a len cap hlen O R hp)
  go_enter Try.func45, Try.ntmps45
  go_wp2_with (go_at_call 25; refine (HC.out).mono ?_; rintro e w1 ⟨x, y, rfl, hc, hb⟩; have H1 := veil hc; have H2 := veil hb; clear hc hb)
  go_ret
  exact ⟨x, y, rfl, H1.out, H2.out⟩

end Go.Proofs.Ytnnpbbiiapipaaa
