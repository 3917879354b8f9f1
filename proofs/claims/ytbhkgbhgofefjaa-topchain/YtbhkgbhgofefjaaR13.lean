/- Deeds on both. -/
import Derived.Test.YtbhkgbhgofefjaaR12
namespace Go.Proofs.Ytbhkgbhgofefjaa
open Go.RowKit
set_option linter.unusedVariables false
section
variable {w w' : World} {b b' s : Nat} {O D : Nat → Prop} {M : Md}
theorem row_low {e : TypeId} {size : Nat} {v : Value} {n : Nat} {xs : List Value} (h : w.ownsRow b e size v n xs) (hb : b' ≤ b) : w.ownsRow b' e size v n xs := ownsRow_lift h (fun k hk => Nat.le_trans hb (ownsRow_blk h hk).1)
theorem RG.low (h : RG w b D s M) (hb : b' ≤ b) : RG w b' D s M := by
  obtain ⟨vb, vo, vw, V, hg, ho⟩ := h
  exact ⟨vb, vo, vw, V, ⟨hg.blk, Nat.le_trans hb hg.lo, row_low hg.bo hb, row_low hg.oo hb, row_low hg.wo hb, fun j y v hy hv => row_low (hg.lin j y v hy hv) hb, hg.apart, Nat.le_trans hb hg.bs, hg.f⟩, ho⟩
theorem PG.low (h : PG w b O s M) (hb : b' ≤ b) : PG w b' O s M := by
  obtain ⟨vt, vl, V, hg, ho⟩ := h
  exact ⟨vt, vl, V, ⟨hg.blk, Nat.le_trans hb hg.lo, row_low hg.tho hb, row_low hg.lko hb, hg.vs, fun j y v hy hv => row_low (hg.lin j y v hy hv) hb, hg.apart, Nat.le_trans hb hg.bs, hg.f⟩, ho⟩
end
/-- So many threads and locks. -/
def Md.sz (M : Md) (n m : Nat) : Prop := M.T.length = n ∧ M.L.length = m
theorem lockR_sz {M : Md} {n m : Nat} (h : M.sz n m) (t k : Int) : (lockR M t k).2.sz n m := by
  unfold lockR
  split
  · exact h
  · split
    · split
      · exact h
      · split
        · exact ⟨h.1, by simpa using h.2⟩
        · split
          · exact h
          · exact ⟨by simpa using h.1, by simpa using h.2⟩
    · exact h
theorem unlR_sz {M : Md} {n m : Nat} (h : M.sz n m) (t k : Int) : (unlR M t k).2.sz n m := by
  unfold unlR
  split
  · exact h
  · split
    · split
      · exact h
      · split
        · exact ⟨h.1, by simpa using h.2⟩
        · refine ⟨?_, by simpa using h.2⟩
          dsimp only
          split
          · simpa using h.1
          · exact h.1
    · exact h
theorem baseR_sz {M : Md} {n m : Nat} (h : M.sz n m) (t : Int) (k : K) : (baseR M t k).2.sz n m := by
  unfold baseR
  split
  · split
    · exact ⟨by simpa using h.1, h.2⟩
    · exact h
  · exact h
theorem doM_sz {M : Md} {n m : Nat} (h : M.sz n m) (x : Dp) : (doM M x).sz n m := by
  unfold doM
  split
  · exact lockR_sz h _ _
  · split
    · exact unlR_sz h _ _
    · split
      · exact baseR_sz h _ _
      · exact h
/-- What play leaves. -/
def Played (w : World) (n m : Nat) (e : Ending) (w' : World) : Prop := ∃ g r O D M, e = .returned (.tuple #[.pointer (some ⟨g, 0, none⟩), .pointer (some ⟨r, 0, none⟩), .bool true]) ∧ Both w' w.heap.size O D g r M ∧ M.sz n m ∧ Below w.heap.size w w'
theorem rem6 (m : Nat) : Int.tmod (m : Int) 6 = ((m % 6 : Nat) : Int) := by
  rw [Int.tmod_eq_emod_of_nonneg (by omega)]
  omega
theorem div66 (m : Nat) : Int.tmod (Int.tdiv (m : Int) 6) 6 = ((m / 6 % 6 : Nat) : Int) := by
  rw [Int.tdiv_eq_ediv_of_nonneg (by omega), Int.tmod_eq_emod_of_nonneg (by omega)]
  omega
set_option maxHeartbeats 4000000 in
theorem play_ok (w : World) (m : Nat) (hm : m < 256) (a : Option Addr) (len cap : Nat) (hlen : len < 9223372036854775808) (L : Nat → Dp) (hd : Dps w a len L) :
    Calls Try.prog 14 #[.int .u8 m, .slice a len cap] w (Played w (m % 6 + 1) (m / 6 % 6)) := by
  have hr := rem6 m
  have hq := div66 m
  have hq' : (m : Int) / 6 % 6 = ((m / 6 % 6 : Nat) : Int) := by omega
  have hr' : (m : Int) % 6 = ((m % 6 : Nat) : Int) := by omega
  have HN := veil (pnew_ok (m % 6 + 1) (m / 6 % 6) w (by omega) (by omega) (by omega))
  have HR := veil (fun w' => rgnew_ok (m % 6 + 1) (m / 6 % 6) w' (by omega) (by omega) (by omega))
  have hN4 : m % 6 < 6 := Nat.mod_lt _ (by decide)
  have hQ3 : m / 6 % 6 < 6 := Nat.mod_lt _ (by decide)
  have HD := veil hd
  clear hd
  generalize m % 6 = N at *
  generalize m / 6 % 6 = Q at *
  have eN : ((N + 1 : Nat) : Int) = (N : Int) + 1 := by omega
  rw [eN] at HN
  simp only [eN] at HR
  clear eN
  go_enter Try.func14, Try.ntmps14
  go_wp2_with (first
    | (go_at_call 31; refine (HN.out).mono ?_; rintro e w1 ⟨g, O, rfl, hq1, hb'⟩; have HQ := veil hq1; have HB := veil hb'; clear hq1 hb')
    | (go_at_call 34; refine (HR.out _).mono ?_; rintro e w2 ⟨r, D, rfl, hr1, hb1⟩; have HR1 := veil hr1; have HB1 := veil hb1; clear hr1 hb1))
  have HB2 : Hid (Both w2 w.heap.size O D g r (newM (N + 1) Q)) := ⟨HQ.out.below HB1.out, HR1.out.low HB.out.size, fun k hk hd => by have := HQ.out.lt hk; have := HR1.out.ge hd; omega⟩
  have HL : Hid (Below w.heap.size w w2) := HB.out.trans (HB1.out.mono HB.out.size)
  have HSZ : Hid ((newM (N + 1) Q).sz (N + 1) Q) := ⟨by simp [newM, newT], by simp [newM, newL]⟩
  clear HQ HR1 HB HB1 HN HR
  go_loopw [9] (fun i wr => ∃ (j : Nat) (O D : Nat → Prop) (M : Md), j ≤ len ∧ j ≤ 60 ∧ i = .int .i64 j ∧ Both wr w.heap.size O D g r M ∧ M.sz (N + 1) Q ∧ Below w.heap.size w wr) (fun i _ => len - (intOf i).toNat)
  case atStart => exact ⟨0, _, _, _, by omega, by omega, rfl, HB2.out, HSZ.out, HL.out⟩
  case round =>
    obtain ⟨j, O', D', M, hj, hj1, rfl, hB, hsz, hbel⟩ := hrel
    have HSZ' := veil hsz
    clear hsz
    by_cases hjl : j < len
    · have hjl' : (j : Int) < (len : Int) := by omega
      by_cases hj2 : j < 60
      · rcases HD.out with h0 | ⟨lb, off, rfl, hlb, hc⟩
        · omega
        · obtain ⟨hok, z2, z3, z4, z5, z6, z7⟩ := hc j hjl
          have y2 := (hbel.cell (p := ⟨lb, off + j * 6, none⟩) hlb).trans z2
          have y3 := (hbel.cell (p := ⟨lb, off + j * 6 + 1, none⟩) hlb).trans z3
          have y4 := (hbel.cell (p := ⟨lb, off + j * 6 + 2, none⟩) hlb).trans z4
          have y5 := (hbel.cell (p := ⟨lb, off + j * 6 + 3, none⟩) hlb).trans z5
          have y6 := (hbel.cell (p := ⟨lb, off + j * 6 + 4, none⟩) hlb).trans z6
          have y7 := (hbel.cell (p := ⟨lb, off + j * 6 + 5, none⟩) hlb).trans z7
          have HDO := veil (do_ok hB (L j) hok)
          have HBB := veil hB
          have HLL := veil hbel
          clear hc z2 z3 z4 z5 z6 z7 hB hbel
          go_wp2_with (go_at_call 30; refine (HDO.out).mono ?_; rintro e w3 ⟨rfl, hgn⟩; have HGN := veil hgn; clear hgn)
          go_roundw
          case rel =>
            obtain ⟨O3, D3, h1, h2, h3⟩ := HGN.out
            exact ⟨j + 1, O3, D3, _, by omega, by omega, by go_num, h1, doM_sz HSZ'.out _, HLL.out.trans (h2.below HLL.out.size (fun k hk => HBB.out.ge hk))⟩
          case measure => simp [intOf]; omega
      · have HB4 := veil hB
        have HL4 := veil hbel
        clear hB hbel
        go_wp2
        simp [bodyPost, results, Try.results14, go_sem]
        exact ⟨_, _, _, _, _, rfl, HB4.out, HSZ'.out, HL4.out⟩
    · have hjl' : ¬ (j : Int) < (len : Int) := by omega
      have HB4 := veil hB
      have HL4 := veil hbel
      clear hB hbel
      go_wp2
      simp [bodyPost, results, Try.results14, go_sem]
      exact ⟨_, _, _, _, _, rfl, HB4.out, HSZ'.out, HL4.out⟩
end Go.Proofs.Ytbhkgbhgofefjaa
