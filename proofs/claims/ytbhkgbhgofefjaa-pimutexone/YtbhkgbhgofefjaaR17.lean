/- PimutexBack's walk. -/
import Derived.Test.YtbhkgbhgofefjaaR14
namespace Go.Proofs.Ytbhkgbhgofefjaa
open Go.RowKit
set_option linter.unusedVariables false
/-- The ways of Lock. -/
theorem lockR_ways {M : Md} (f : Fine M.T M.L) (t m : Int) : (∃ e, e ≠ 0 ∧ lockR M t m = ((false, e), M)) ∨
    (∃ (i j : Nat) (x : Th) (y : Lk), t = i ∧ m = j ∧ M.T[i]? = some x ∧ x.u = -1 ∧ M.L[j]? = some y ∧ y.h = -1 ∧ y.l = [] ∧ mayE M.T M.L t m = 0 ∧ lockR M t m = ((true, 0), ⟨M.T, M.L.set j ⟨(i : Int), y.l⟩⟩)) ∨
    (∃ (i j : Nat) (x : Th) (y : Lk), t = i ∧ m = j ∧ M.T[i]? = some x ∧ M.L[j]? = some y ∧ lockR M t m = ((false, 0), ⟨M.T.set i ⟨x.k, (j : Int)⟩, M.L.set j ⟨y.h, y.l ++ [i]⟩⟩)) := by
  by_cases he : mayE M.T M.L t m = 0
  · obtain ⟨i, j, x, y, rfl, rfl, hi, hj, hx, hu, hy⟩ := may_yes he
    unfold lockR
    rw [if_neg (by simpa using he)]
    simp only [Int.toNat_natCast, hx, hy]
    by_cases h1 : y.h = (i : Int)
    · rw [if_pos h1]
      exact .inl ⟨7, by decide, rfl⟩
    · rw [if_neg h1]
      by_cases h2 : y.h = -1
      · rw [if_pos h2]
        exact .inr (.inl ⟨i, j, x, y, rfl, rfl, hx, hu, hy, h2, (f.take hy h2 hi).1, he, rfl⟩)
      · rw [if_neg h2]
        split
        · exact .inl ⟨8, by decide, rfl⟩
        · exact .inr (.inr ⟨i, j, x, y, rfl, rfl, hx, hy, rfl⟩)
  · refine .inl ⟨mayE M.T M.L t m, he, ?_⟩
    unfold lockR
    rw [if_pos he]
theorem waits_of {T : List Th} {i : Nat} {x : Th} (hx : T[i]? = some x) : waitsOf T (i : Int) = x.u := by
  have hi := (List.getElem?_eq_some_iff.1 hx).1
  unfold waitsOf
  rw [if_pos (by unfold inT; simp; omega), Int.toNat_natCast, hx]
  rfl
theorem owner_of {L : List Lk} {j : Nat} {y : Lk} (hy : L[j]? = some y) : ownerOf L (j : Int) = y.h := by
  have hj := (List.getElem?_eq_some_iff.1 hy).1
  unfold ownerOf
  rw [if_pos (by unfold inL; simp; omega), Int.toNat_natCast, hy]
  rfl
theorem set_same {α : Type} {l : List α} {j : Nat} {y : α} (h : l[j]? = some y) : l.set j y = l := by
  apply List.ext_getElem?
  intro k
  rw [List.getElem?_set]
  by_cases q : j = k
  · subst q
    have hj := (List.getElem?_eq_some_iff.1 h).1
    rw [if_pos rfl, if_pos hj, h]
  · rw [if_neg q]
/-- Taken and given back: as it was. -/
theorem back_eq {M : Md} {i j : Nat} {x : Th} {y : Lk} (hx : M.T[i]? = some x) (hu : x.u = -1) (hy : M.L[j]? = some y) (h1 : y.h = -1) (h2 : y.l = []) (he : mayE M.T M.L (i : Int) (j : Int) = 0) : unlR ⟨M.T, M.L.set j ⟨(i : Int), y.l⟩⟩ (i : Int) (j : Int) = ((-1, 0), M) := by
  have hi := (List.getElem?_eq_some_iff.1 hx).1
  have hj := (List.getElem?_eq_some_iff.1 hy).1
  have he' : mayE M.T (M.L.set j ⟨(i : Int), y.l⟩) (i : Int) (j : Int) = 0 := by
    unfold mayE at he ⊢
    have e : inL (M.L.set j ⟨(i : Int), y.l⟩) (j : Int) = inL M.L (j : Int) := by unfold inL; simp
    rw [e]
    exact he
  have hy' : (M.L.set j ⟨(i : Int), y.l⟩)[j]? = some ⟨(i : Int), y.l⟩ := by simp [hj]
  unfold unlR
  rw [if_neg (by simpa using he')]
  simp only [Int.toNat_natCast, hy']
  have hz : ∀ k : Nat, y.l[k]? = none := fun k => by rw [h2]; rfl
  rw [if_neg (by simp), hz]
  simp only [List.set_set]
  have : M.L.set j ⟨-1, y.l⟩ = M.L := by
    apply set_same
    rw [hy, ← h1]
  rw [this]
section
variable {w w' w'' : World} {b g r : Nat} {O D : Nat → Prop} {M M' : Md}
/-- The program alone goes on. -/
structure Solo (w : World) (b : Nat) (O D : Nat → Prop) (g r : Nat) (M' M : Md) : Prop where
  p : PG w b O g M'
  r : RG w b D r M
  ap : ∀ k, O k → ¬ D k
theorem Both.solo (h : Both w b O D g r M) : Solo w b O D g r M M := ⟨h.p, h.r, h.ap⟩
theorem Solo.both (h : Solo w b O D g r M M) : Both w b O D g r M := ⟨h.p, h.r, h.ap⟩
theorem Solo.below {M0 : Md} (h : Solo w b O D g r M0 M) (hb : Below w.heap.size w w') : Solo w' b O D g r M0 M := ⟨h.p.below hb, h.r.below hb, h.ap⟩
theorem Solo.step {M0 : Md} (h : Solo w b O D g r M0 M) (hs : Stp w w' b O g M') : ∃ O', Solo w' b O' D g r M' M ∧ Fr O w w' ∧ ∀ k, O' k → O k ∨ w.heap.size ≤ k := by
  obtain ⟨O', hp, hf, hn⟩ := hs
  refine ⟨O', ⟨hp, h.r.frame hf (fun k hk hs => h.ap k hs hk), fun k hk hd => ?_⟩, hf, hn⟩
  rcases hn k hk with q | q
  · exact h.ap k q hd
  · have := h.r.lt hd; omega
end
theorem Dps.deed {w : World} {a : Option Addr} {len : Nat} {L : Nat → Dp} (h : Dps w a len L) (o : Obj) : Dps (w.alloc o) a len L := h.below ((Below.refl _ _).alloc (Nat.le_refl _) _)
set_option maxHeartbeats 4000000 in
theorem Back_walk (m : Nat) (hm : m < 256) (a : Option Addr) (len cap : Nat) (L : Nat → Dp) (hlen : len < 9223372036854775808) (w : World) (hd : Dps w a len L) (x : Dp) (hx : x.ok) :
    Calls Try.prog 11 #[.int .u8 m, .slice a len cap, .agg #[.int .i64 x.k, .int .i64 x.p, .int .i64 x.i, .bool x.e, .int .u64 x.d, .int .u8 x.l]] w fun e w' => e = .returned (.bool true) ∧ Below w.heap.size w w' := by
  have HD0 : Hid (DB (w.alloc (.cells #[.int .i64 x.k, .int .i64 x.p, .int .i64 x.i, .bool x.e, .int .u64 x.d, .int .u8 x.l] 38)) w.heap.size x) := World.alloc_heap_new w _
  have HB0 : Hid (Below w.heap.size w (w.alloc (.cells #[.int .i64 x.k, .int .i64 x.p, .int .i64 x.i, .bool x.e, .int .u64 x.d, .int .u8 x.l] 38))) := (Below.refl _ _).alloc (Nat.le_refl _) _
  have HP := veil (play_ok _ m hm a len cap hlen L (hd.deed (.cells #[.int .i64 x.k, .int .i64 x.p, .int .i64 x.i, .bool x.e, .int .u64 x.d, .int .u8 x.l] 38)))
  clear hd
  go_enter Try.func11, Try.ntmps11
  go_wp2_with (first
    | (go_at_call 14; refine (HP.out).mono ?_; rintro e w1 ⟨g, r, O, D, M, rfl, hB, hsz, hL⟩; have HB := veil hB; have HL := veil hL; clear hB hL hsz)
    | (go_at_call 15; refine (live_ok _).mono ?_; rintro e w2 ⟨rfl, hb2⟩; have HB2 := veil (HB.out.below hb2); have HL2 := veil (HL.out.trans (hb2.mono HL.out.size)); have HD2 := veil (HD0.out.below (HL2.out)); obtain ⟨c0, c1, c2, c3, c4, c5⟩ := HD2.out.cells; clear hb2))
  have HSo := veil HB2.out.solo
  have hnO : ¬ O w.heap.size := fun q => by have := HB.out.p.ge q; simp at this; omega
  have HLk := veil (HB2.out.p.lock x.p x.i)
  have HF := veil HB2.out.p.f
  have HGE : Hid (∀ (W W' : World) (O1 : Nat → Prop) (M1 : Md), PG W (w.alloc (.cells #[.int .i64 x.k, .int .i64 x.p, .int .i64 x.i, .bool x.e, .int .u64 x.d, .int .u8 x.l] 38)).heap.size O1 g M1 → Below (w.alloc (.cells #[.int .i64 x.k, .int .i64 x.p, .int .i64 x.i, .bool x.e, .int .u64 x.d, .int .u8 x.l] 38)).heap.size (w.alloc (.cells #[.int .i64 x.k, .int .i64 x.p, .int .i64 x.i, .bool x.e, .int .u64 x.d, .int .u8 x.l] 38)) W → Fr O1 W W' → Below (w.alloc (.cells #[.int .i64 x.k, .int .i64 x.p, .int .i64 x.i, .bool x.e, .int .u64 x.d, .int .u8 x.l] 38)).heap.size (w.alloc (.cells #[.int .i64 x.k, .int .i64 x.p, .int .i64 x.i, .bool x.e, .int .u64 x.d, .int .u8 x.l] 38)) W') := fun W W' O1 M1 hp hb hf => hb.trans (hf.below hb.size (fun k hk => hp.ge hk))
  rcases lockR_ways HF.out x.p x.i with ⟨e, he, eq⟩ | ⟨i, j, xt, y, e1, e2, hxt, hu, hy, h1, h2, hmay, eq⟩ | ⟨i, j, xt, y, e1, e2, hxt, hy, eq⟩
  · rw [eq] at HLk
    clear eq
    go_wp2_with (first
      | (go_at_call 28; refine (HLk.out).mono ?_; rintro e' w3 ⟨rfl, hs⟩; have HS3 := veil hs; obtain ⟨O3, hso, hf, hn⟩ := HSo.out.step hs; have HL3 := veil (HGE.out _ _ _ _ HSo.out.p HL2.out hf); have HD3 := veil (HD0.out.below HL3.out); obtain ⟨d0, d1, d2, d3, d4, d5⟩ := HD3.out.cells; clear hs hso hf hn))
    have hne : (e != 0) = true := by simpa using he
    go_quiet (fail)
    go_wp2
    go_ret
    exact ⟨rfl, HB0.out.trans ((below_drewN HL3.out _).mono HB0.out.size)⟩
  · have hj := (List.getElem?_eq_some_iff.1 hy).1
    have hbk := back_eq hxt hu hy h1 h2 (by rw [← e1, ← e2]; exact hmay)
    rw [← e1, ← e2] at hbk
    have hw1 : waitsOf M.T x.p = -1 := by rw [e1, waits_of hxt, hu]
    have ho1 : ownerOf (M.L.set j ⟨(i : Int), y.l⟩) x.i = x.p := by rw [e1, e2]; exact owner_of (y := ⟨(i : Int), y.l⟩) (by simp [hj])
    rw [eq] at HLk
    dsimp only at HLk
    rw [← e1] at HLk ho1
    have HBK := veil hbk
    have HW1 := veil hw1
    have HO1 := veil ho1
    clear eq hxt hu hy h1 h2 hmay hbk hw1 ho1 e1 e2
    go_wp2_with (first
      | (go_at_call 28; refine (HLk.out).mono ?_; rintro e' w3 ⟨rfl, hs⟩; obtain ⟨O3, hso, hf, hn⟩ := HSo.out.step hs; have HS3 := veil hso; have HL3 := veil (HGE.out _ _ _ _ HSo.out.p HL2.out hf); have HD3 := veil (HD0.out.below HL3.out); obtain ⟨d0, d1, d2, d3, d4, d5⟩ := HD3.out.cells; clear hs hso hf hn))
    have hop := HS3.out.p.drew.owner x.i
    dsimp only at hop
    rw [HO1.out] at hop
    have hwp := HS3.out.p.drew.waits x.p
    dsimp only at hwp
    rw [HW1.out] at hwp
    have HOp := veil hop
    have HWp := veil hwp
    have hul := HS3.out.p.drew.unlock x.p x.i
    rw [HBK.out] at hul
    have HUl := veil hul
    have HSd : Hid (Solo w3.drew _ O3 D g r _ M) := ⟨HS3.out.p.drew, HS3.out.r.frame (Fr.refl (fun _ => False) w3).drew (fun _ _ => id), HS3.out.ap⟩
    have HLd := veil (below_drewN HL3.out 1)
    have hxp : (x.p == x.p) = true := by simp
    have hS1 := veil (And.intro d1 d2)
    have hS2 : Hid (w3.drew.cell? ⟨w.heap.size, 1, none⟩ = some (.int .i64 x.p) ∧ w3.drew.cell? ⟨w.heap.size, 2, none⟩ = some (.int .i64 x.i)) := ⟨d1, d2⟩
    clear hop hwp hul
    go_region_held3 (fun w' => (w'.cell? ⟨w.heap.size, 1, none⟩ = some (.int .i64 x.p) ∧ w'.cell? ⟨w.heap.size, 2, none⟩ = some (.int .i64 x.i)))
      (first | with_reducible exact hS1.out | with_reducible exact hS2.out)
      (first
        | (go_at_call 18; refine (HOp.out).mono ?_; rintro e wx ⟨rfl, hw⟩; replace hw := hw.symm; subst hw)
        | (go_at_call 20; refine (HWp.out).mono ?_; rintro e wx ⟨rfl, hw⟩; replace hw := hw.symm; subst hw))
    have d1' := hS2.out.1
    have d2' := hS2.out.2
    go_wp2_with (first
      | (go_at_call 26; refine (HUl.out).mono ?_; rintro e' w4 ⟨rfl, hs⟩; obtain ⟨O4, hso, hf, hn⟩ := HSd.out.step hs; have HB4 := veil hso.both; have HL4 := veil (HGE.out _ _ _ _ HSd.out.p HLd.out hf); clear hs hso hf hn)
      | (go_at_call 16; refine (same_ok HB4.out).mono ?_; rintro e w5 ⟨rfl, hb⟩; have HL5 := veil (HL4.out.trans (hb.mono HL4.out.size)); clear hb))
    go_ret
    exact ⟨rfl, HB0.out.trans (HL5.out.mono HB0.out.size)⟩
  · have hi := (List.getElem?_eq_some_iff.1 hxt).1
    have hw1 : waitsOf (M.T.set i ⟨xt.k, (j : Int)⟩) x.p = x.i := by rw [e1, e2]; exact waits_of (x := ⟨xt.k, (j : Int)⟩) (by simp [hi])
    rw [eq] at HLk
    dsimp only at HLk
    have HW1 := veil hw1
    clear eq hxt hy hw1 e1 e2
    go_wp2_with (first
      | (go_at_call 28; refine (HLk.out).mono ?_; rintro e' w3 ⟨rfl, hs⟩; obtain ⟨O3, hso, hf, hn⟩ := HSo.out.step hs; have HS3 := veil hso; have HL3 := veil (HGE.out _ _ _ _ HSo.out.p HL2.out hf); have HD3 := veil (HD0.out.below HL3.out); obtain ⟨d0, d1, d2, d3, d4, d5⟩ := HD3.out.cells; clear hs hso hf hn))
    have hwp := HS3.out.p.drew.waits x.p
    dsimp only at hwp
    rw [HW1.out] at hwp
    have HWp := veil hwp
    have HLd := veil (below_drewN HL3.out 1)
    have hS1 := veil (And.intro d1 d2)
    have hS2 : Hid (w3.drew.cell? ⟨w.heap.size, 1, none⟩ = some (.int .i64 x.p) ∧ w3.drew.cell? ⟨w.heap.size, 2, none⟩ = some (.int .i64 x.i)) := ⟨d1, d2⟩
    clear hwp
    go_region_held3 (fun w' => (w'.cell? ⟨w.heap.size, 1, none⟩ = some (.int .i64 x.p) ∧ w'.cell? ⟨w.heap.size, 2, none⟩ = some (.int .i64 x.i)))
      (first | with_reducible exact hS1.out | with_reducible exact hS2.out)
      (first
        | (go_at_call 20; refine (HWp.out).mono ?_; rintro e wx ⟨rfl, hw⟩; replace hw := hw.symm; subst hw))
    go_wp2
    go_ret
    exact ⟨rfl, HB0.out.trans (HLd.out.mono HB0.out.size)⟩
end Go.Proofs.Ytbhkgbhgofefjaa
