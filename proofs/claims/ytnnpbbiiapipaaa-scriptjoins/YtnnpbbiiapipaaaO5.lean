/-
  prog: Encode walked.
-/
import Derived.Test.YtnnpbbiiapipaaaO4
namespace Go.Proofs.Ytnnpbbiiapipaaa
open Go.RowKit Go.Lib

/-- A program's bytes up to an instruction. -/
def enc (len : Nat) (O R : Nat → Int) : Nat → List Value
  | 0 => [.int .u8 (len : Int)]
  | k + 1 => enc len O R k ++ [.int .u8 (O k)] ++ [lowByte ((R k).toNat / 65536), lowByte ((R k).toNat / 256), lowByte (R k).toNat]

theorem okI_bounds {n op x : Int} (hn : n ≤ 64) (h : okI n op x = true) : 1 ≤ op ∧ op ≤ 9 ∧ 0 ≤ x ∧ x ≤ 65536 := by
  simp only [okI, known, Bool.and_eq_true, decide_eq_true_eq] at h
  obtain ⟨⟨h1, h2⟩, h3, h4⟩ := h
  have hlo : 0 ≤ lo op := by unfold lo; split <;> omega
  have hhi : hi n op ≤ 65536 := by unfold hi; repeat' split <;> omega
  exact ⟨h1, h2, by omega, by omega⟩

theorem Chk.zero {len : Nat} {O R : Nat → Int} {y : Int} (h : Chk len O R 0 y) : 1 ≤ len ∧ len ≤ 64 ∧ (∀ i, i < len → okI len (O i) (R i) = true) ∧ (O (len - 1) = 8 ∨ O (len - 1) = 9) ∧ y = 0 := by
  rcases h with ⟨_, h, _⟩ | ⟨_, _, _, _, _, _, h, _⟩ | ⟨_, _, _, _, _, h, _⟩ | ⟨h1, h2, h3, h4, _, h5⟩
  · omega
  · omega
  · omega
  · exact ⟨h1, h2, h3, h4, h5⟩
theorem Chk.three {len : Nat} {O R : Nat → Int} {x y : Int} (h : Chk len O R x y) (hx : x ≠ 0) : x = 3 := by
  rcases h with ⟨_, h, _⟩ | ⟨_, _, _, _, _, _, h, _⟩ | ⟨_, _, _, _, _, h, _⟩ | ⟨h1, h2, h3, h4, h5, _⟩
  · exact h
  · exact h
  · exact h
  · omega

/-- A right program. -/
def Rt (len : Nat) (O R : Nat → Int) : Prop := ∃ y, Chk len O R 0 y
theorem right_yes (w : World) (a : Option Addr) (len cap : Nat) (hlen : len < 9223372036854775808) (O R : Nat → Int) (hp : Prg w a len O R) (hr : Rt len O R) :
    Calls Try.prog 45 #[.slice a len cap] w fun e w' => e = .returned (.bool true) ∧ Below w.heap.size w w' :=
  (right_ok w a len cap hlen O R hp).mono fun e w' ⟨x, y, he, hc, hb⟩ => by
    obtain ⟨y', h'⟩ := hr
    obtain ⟨rfl, _⟩ := h'.one hc
    exact ⟨he, hb⟩
theorem right_no (w : World) (a : Option Addr) (len cap : Nat) (hlen : len < 9223372036854775808) (O R : Nat → Int) (hp : Prg w a len O R) (hr : ¬ Rt len O R) :
    Calls Try.prog 45 #[.slice a len cap] w fun e w' => e = .returned (.bool false) ∧ Below w.heap.size w w' ∧ ∃ y, Chk len O R 3 y :=
  (right_ok w a len cap hlen O R hp).mono fun e w' ⟨x, y, he, hc, hb⟩ => by
    have hx : x ≠ 0 := fun q => hr ⟨y, q ▸ hc⟩
    have h3 := hc.three hx
    subst h3
    exact ⟨he, hb, y, hc⟩

theorem encode_no (w : World) (a : Option Addr) (len cap : Nat) (hlen : len < 9223372036854775808) (O R : Nat → Int) (hp : Prg w a len O R) (hr : ¬ Rt len O R) :
    Calls Try.prog 35 #[.slice a len cap] w fun e w' => e = .returned (.tuple #[.slice none 0 0, .int .i64 3]) ∧ Below w.heap.size w w' := by
  have HC := veil (right_no w a len cap hlen O R hp hr)
  clear hp hr
  go_enter Try.func35, Try.ntmps35
  go_wp2_with (go_at_call 45; refine (HC.out).mono ?_; rintro e w1 ⟨rfl, hb, hc⟩; have HL := veil hb; clear hc hb)
  go_ret2
  exact ⟨rfl, HL.out⟩

set_option maxRecDepth 100000 in
set_option maxHeartbeats 1000000 in
theorem encode_yes (w : World) (a : Option Addr) (len cap : Nat) (hlen : len < 9223372036854775808) (O R : Nat → Int) (hp : Prg w a len O R) (hr : Rt len O R) :
    Calls Try.prog 35 #[.slice a len cap] w fun e w' => ∃ v : Value, e = .returned (.tuple #[v, .int .i64 0]) ∧ w'.ownsRow w.heap.size 5 1 v (1 + 4 * len) (enc len O R len) ∧ Below w.heap.size w w' := by
  have HP := veil hp
  have HC := veil (right_yes w a len cap hlen O R hp hr)
  obtain ⟨y0, hy0⟩ := hr
  obtain ⟨hl1, hl2, hall, _, _⟩ := hy0.zero
  have HA := veil hall
  clear hp hy0 hall
  have HT := veil (fun (w1 : World) (hs : w.heap.size ≤ w1.heap.size) => tell1 w1 w.heap.size (.slice none 0 0) 0 [] (by omega) (World.ownsRow_nil _ _ _ _) hs len (by omega))
  go_enter Try.func35, Try.ntmps35
  go_wp2_with (first
    | (go_at_call 45; refine (HC.out).mono ?_; rintro e w1 ⟨rfl, hb⟩; have HL := veil hb; clear hb)
    | (go_at_call 46; refine (HT.out _ HL.out.size).mono ?_; rintro e w2 ⟨v2, rfl, ho, hg⟩; have HO := veil ho; have HL2 := veil (HL.out.grown hg HL.out.size (fun k hk => by cases hk)); clear ho hg))
  clear HC HT
  go_loopw [4, 15] (fun s i wr => ∃ (j : Nat), j ≤ len ∧ i = .int .i64 j ∧ wr.ownsRow w.heap.size 5 1 s (1 + 4 * j) (enc len O R j) ∧ Below w.heap.size w wr) (fun _ i _ => len - (intOf i).toNat)
  case atStart => exact ⟨0, by omega, rfl, HO.out, HL2.out⟩
  case round =>
    obtain ⟨j, hj, rfl, hown, hbel⟩ := hrel
    by_cases hjl : j < len
    · have hjl' : (j : Int) < (len : Int) := by omega
      obtain ⟨b1, b2, b3, b4⟩ := okI_bounds (by omega) (HA.out j hjl)
      obtain ⟨o, ho⟩ : ∃ o : Nat, O j = (o : Int) := ⟨(O j).toNat, by omega⟩
      obtain ⟨r, hr⟩ : ∃ r : Nat, R j = (r : Int) := ⟨(R j).toNat, by omega⟩
      rcases HP.out with h0 | ⟨lb, off, rfl, hlb, hc⟩
      · omega
      · obtain ⟨z1, z2⟩ := hc j hjl
        have y1 := (hbel.cell (p := ⟨lb, off + j * 2, none⟩) hlb).trans z1
        have y2 := (hbel.cell (p := ⟨lb, off + j * 2 + 1, none⟩) hlb).trans z2
        have HE : Hid (enc len O R (j + 1) = enc len O R j ++ [.int .u8 (o : Int)] ++ [lowByte (r / 65536), lowByte (r / 256), lowByte r]) := by
          show enc len O R (j + 1) = _
          simp only [enc, ho, hr, Int.toNat_natCast]
        rw [ho] at y1
        rw [hr] at y2
        have ho1 : o < 256 := by omega
        have hr1 : r < 16777216 := by omega
        have hsz := hbel.size
        have HW := veil hown
        have HB := veil hbel
        have T1 := veil (tell1 (wr.alloc (.cells #[.int .i64 (o : Int), .int .i64 (r : Int)] 64)) w.heap.size _ _ _ (by omega) (hown.alloc _) (by simp; omega) o ho1)
        have HN : Hid (∀ w2, (wr.alloc (.cells #[.int .i64 (o : Int), .int .i64 (r : Int)] 64)).grownBy w2 (Value.ownBlock u4) → w2.cell? ⟨wr.heap.size, 1, none⟩ = some (.int .i64 (r : Int)) ∧ Below w.heap.size w w2) := by
          intro w2 hg
          refine ⟨?_, (hbel.alloc hsz _).grown hg (by simp; omega) (fun k hk => (hown.lt k hk).1)⟩
          have hlt : ∀ k, Value.ownBlock u4 = some k → k < wr.heap.size := fun k hk => (hown.lt k hk).2
          have hb := hg.block wr.heap.size (by simp) (fun q => by have := hlt _ q.symm; omega)
          rw [World.cell?_of_block (w := wr.alloc (.cells #[.int .i64 (o : Int), .int .i64 (r : Int)] 64)) hb]
          unfold World.cell?
          simp only [(MapKept.heap_alloc wr _).1]
          rfl
        have T3 := veil (fun (w2 : World) (v2 : Value) (hh : w2.ownsRow w.heap.size 5 1 v2 (1 + 4 * j + 1) (enc len O R j ++ [.int .u8 (o : Int)])) (hs : w.heap.size ≤ w2.heap.size) => tell3 w2 w.heap.size v2 _ _ (by omega) hh hs r hr1)
        clear hown hbel hc z1 z2 ho hr b1 b2 b3 b4
        go_wp2_with (first
          | (go_at_call 46; refine (T1.out).mono ?_; rintro e w2 ⟨v2, rfl, ho2, hg2⟩; have HO2 := veil ho2; obtain ⟨yr, hb2⟩ := HN.out _ hg2; have HB2 := veil hb2; clear ho2 hg2 hb2 T1 HN)
          | (go_at_call 46; refine (T3.out _ _ HO2.out HB2.out.size).mono ?_; rintro e w3 ⟨v3, rfl, ho3, hb3⟩; have HO3 := veil ho3; have HB3 := veil (HB2.out.trans hb3); clear ho3 hb3 T3))
        trace_state
        go_roundw
        case rel =>
          refine ⟨j + 1, by omega, by go_num, ?_, HB3.out⟩
          rw [HE.out]
          exact HO3.out
        case measure => simp [intOf]; omega
    · have hjl' : ¬ (j : Int) < (len : Int) := by omega
      obtain rfl : j = len := by omega
      have HW := veil hown
      have HB := veil hbel
      clear hown hbel
      go_wp2
      go_ret2
      exact ⟨_, rfl, HW.out, HB.out⟩
end Go.Proofs.Ytnnpbbiiapipaaa
