/- YtjlbmmiomfpgiaaGreatDoorGn: of the texts O1 O2 O3 J1 J2 J3 J4 J5 J6 J7 J8 what is wanted. -/
import Derived.Test.YtjlbmmiomfpgiaaGreatDoorRows
import Derived.WalkKit
import Derived.Below
import Derived.WalkSpells
import Derived.WalkLawsBesides
import Derived.StillTactics
import Derived.RegionTactic
import Derived.RowKit3
import Derived.Laws.MakeOwn
import Derived.OwnWalk
import Derived.Deep.QuietTactic
import Derived.BigQuiet
import Derived.Laws.OwnMore
import Derived.Maps.AppendAt
import Derived.Deep.AppendLies
import Derived.Deep.RegionHeld3
import Derived.Deep.DrawnRows
import Derived.Lib.SmallJoins
import Derived.OneCell
import Derived.ProofKit
import Derived.Deep.Slices
import Derived.Deep.Strs
import Derived.ChangeOld
import Derived.OpenShut
namespace Go.Proofs.YtjlbmmiomfpgiaaGreatDoor.Ex
set_option maxRecDepth 100000
open Go.RowKit Go.Lib
set_option linter.unusedVariables false
theorem veil {p : Prop} (h : p) : Hid p := h
def ent (k a b : Int) (n : Nat) : MapEntry := { key := .int .i64 k, val := .agg #[.int .i64 a, .int .i64 b], born := n }
/-- What the map of a program of so many instructions holds. -/
def spanRow (n : Int) : List MapEntry :=
  [ent 1 1 65536 0, ent 2 0 31 1, ent 3 0 31 2, ent 4 0 15 3, ent 5 1 65536 4, ent 6 0 0 5, ent 7 0 255 6, ent 8 0 (n - 1) 7, ent 9 0 0 8]
theorem find_no (k : Int) : ∀ (l : List MapEntry) (i : Nat), (∀ e ∈ l, ∃ x, e.key = .int .i64 x ∧ x ≠ k) → Instr.findNow (.int .i64) (.int .i64 k) l i = some none
  | [], _, _ => rfl
  | e :: l, i, h => by
    obtain ⟨x, h1, h2⟩ := h e (by simp)
    have hne : (k == x) = false := by simp; exact fun q => h2 q.symm
    simp [Instr.findNow, h1, Instr.sameNow, hne, find_no k l (i + 1) (fun e' he => h e' (by simp [he]))]
theorem run_put (w : World) (l : List MapEntry) (c : Nat) (k : Int) (v : Value) (h : ∀ e ∈ l, ∃ x, e.key = .int .i64 x ∧ x ≠ k) :
    (Instr.mapUpdate 185 (.map (some w.heap.size)) (.int .i64 k) v).run Tryz.prog (w.alloc (.map l.toArray c)) = .ok () (w.alloc (.map (l ++ [MapEntry.mk (.int .i64 k) v c]).toArray (c + 1))) := by
  have hf := find_no k l 0 h
  have hg : (w.alloc (.map l.toArray c)).heap[w.heap.size]? = some (.map l.toArray c) := heap_alloc_new w _
  have h1 := MapKept.run_checkKey (P := Tryz.prog) (w := w.alloc (.map l.toArray c)) (k := .int .i64 k) Tryz.underlying62 (by simp [MapKept.IsKey]) false 9999
  have h2 := MapKept.run_findKey (P := Tryz.prog) (w := w.alloc (.map l.toArray c)) Tryz.underlying62 hf
  have h3 : Array.setIfInBounds (w.heap.push (.map l.toArray c)) w.heap.size (.map (l ++ [MapEntry.mk (.int .i64 k) v c]).toArray (c + 1)) = w.heap.push (.map (l ++ [MapEntry.mk (.int .i64 k) v c]).toArray (c + 1)) := by
    apply Array.ext
    · simp
    · intro i h4 h5
      simp at h4 h5
      by_cases hi : i = w.heap.size
      · subst hi; simp
      · rw [Array.getElem_setIfInBounds_ne (by simpa using h4) (by omega), Array.getElem_push_lt (by omega), Array.getElem_push_lt (by omega)]
  simp [Instr.mapUpdate, run_underlying Tryz.underlying185, MapKept.run_getObj_map hg, h1, h2, MapKept.run_setObj_map _ hg, Result.andThen]
  show ({ w with heap := Array.setIfInBounds (w.heap.push (.map l.toArray c)) w.heap.size (.map (l ++ [MapEntry.mk (.int .i64 k) v c]).toArray (c + 1)) } : World) = _
  rw [h3]
  rfl
def spanW (w : World) (n : Int) (k : Nat) : World := w.alloc (.map ((spanRow n).take k).toArray k)
theorem put1 (w : World) (n : Int) : (Instr.mapUpdate 185 (.map (some w.heap.size)) (.int .i64 1) (.agg #[.int .i64 1, .int .i64 65536])).run Tryz.prog (spanW w n 0) = .ok () (spanW w n 1) :=
  run_put w ((spanRow n).take 0) 0 1 _ (by simp [spanRow, ent])
theorem put2 (w : World) (n : Int) : (Instr.mapUpdate 185 (.map (some w.heap.size)) (.int .i64 2) (.agg #[.int .i64 0, .int .i64 31])).run Tryz.prog (spanW w n 1) = .ok () (spanW w n 2) :=
  run_put w ((spanRow n).take 1) 1 2 _ (by simp [spanRow, ent])
theorem put3 (w : World) (n : Int) : (Instr.mapUpdate 185 (.map (some w.heap.size)) (.int .i64 3) (.agg #[.int .i64 0, .int .i64 31])).run Tryz.prog (spanW w n 2) = .ok () (spanW w n 3) :=
  run_put w ((spanRow n).take 2) 2 3 _ (by simp [spanRow, ent])
theorem put4 (w : World) (n : Int) : (Instr.mapUpdate 185 (.map (some w.heap.size)) (.int .i64 4) (.agg #[.int .i64 0, .int .i64 15])).run Tryz.prog (spanW w n 3) = .ok () (spanW w n 4) :=
  run_put w ((spanRow n).take 3) 3 4 _ (by simp [spanRow, ent])
theorem put5 (w : World) (n : Int) : (Instr.mapUpdate 185 (.map (some w.heap.size)) (.int .i64 5) (.agg #[.int .i64 1, .int .i64 65536])).run Tryz.prog (spanW w n 4) = .ok () (spanW w n 5) :=
  run_put w ((spanRow n).take 4) 4 5 _ (by simp [spanRow, ent])
theorem put6 (w : World) (n : Int) : (Instr.mapUpdate 185 (.map (some w.heap.size)) (.int .i64 6) (.agg #[.int .i64 0, .int .i64 0])).run Tryz.prog (spanW w n 5) = .ok () (spanW w n 6) :=
  run_put w ((spanRow n).take 5) 5 6 _ (by simp [spanRow, ent])
theorem put7 (w : World) (n : Int) : (Instr.mapUpdate 185 (.map (some w.heap.size)) (.int .i64 7) (.agg #[.int .i64 0, .int .i64 255])).run Tryz.prog (spanW w n 6) = .ok () (spanW w n 7) :=
  run_put w ((spanRow n).take 6) 6 7 _ (by simp [spanRow, ent])
theorem put8 (w : World) (n : Int) : (Instr.mapUpdate 185 (.map (some w.heap.size)) (.int .i64 8) (.agg #[.int .i64 0, .int .i64 (n - 1)])).run Tryz.prog (spanW w n 7) = .ok () (spanW w n 8) :=
  run_put w ((spanRow n).take 7) 7 8 _ (by simp [spanRow, ent])
theorem put9 (w : World) (n : Int) : (Instr.mapUpdate 185 (.map (some w.heap.size)) (.int .i64 9) (.agg #[.int .i64 0, .int .i64 0])).run Tryz.prog (spanW w n 8) = .ok () (spanW w n 9) :=
  run_put w ((spanRow n).take 8) 8 9 _ (by simp [spanRow, ent])
theorem spans_ok (w : World) (n : Int) (h1 : 1 ≤ n) (h2 : n ≤ 64) :
    Calls Tryz.prog 92 #[.int .i64 n] w fun e w' => e = .returned (.map (some w.heap.size)) ∧ w' = spanW w n 9 := by
  have hm : (Instr.makeMap 185 none).run Tryz.prog w = .ok (.map (some w.heap.size)) (spanW w n 0) := rfl
  have p1 := put1 w n
  have p2 := put2 w n
  have p3 := put3 w n
  have p4 := put4 w n
  have p5 := put5 w n
  have p6 := put6 w n
  have p7 := put7 w n
  have p8 := put8 w n
  have p9 := put9 w n
  go_enter Tryz.func92, Tryz.ntmps92
  go_wp2
  go_ret
  exact ⟨rfl, rfl⟩
def lo (op : Int) : Int := if op = 1 ∨ op = 5 then 1 else 0
def hi (n op : Int) : Int := if op = 1 ∨ op = 5 then 65536 else if op = 2 ∨ op = 3 then 31 else if op = 4 then 15 else if op = 7 then 255 else if op = 8 then n - 1 else 0
def known (op : Int) : Bool := decide (1 ≤ op ∧ op ≤ 9)
theorem look_span (w : World) (b : Nat) (n op : Int) (hb : w.heap[b]? = some (.map (spanRow n).toArray 9)) :
    (Instr.lookup 185 (.map (some b)) (.int .i64 op) true).run Tryz.prog w = .ok (.tuple #[.agg #[.int .i64 (lo op), .int .i64 (hi n op)], .bool (known op)]) w := by
  have h1 := MapKept.run_checkKey (P := Tryz.prog) (w := w) (k := .int .i64 op) Tryz.underlying62 (by simp [MapKept.IsKey]) false 9999
  have hz : (zeroValue 188).run Tryz.prog w = .ok (.agg #[.int .i64 0, .int .i64 0]) w := by kernel_rfl
  have he : (spanRow n).toArray.isEmpty = false := rfl
  have key : ∃ a, Instr.findNow (.int .i64) (.int .i64 op) (spanRow n) 0 = some a ∧ ((a = none ∧ known op = false ∧ lo op = 0 ∧ hi n op = 0) ∨ ∃ i, a = some (i, .agg #[.int .i64 (lo op), .int .i64 (hi n op)]) ∧ known op = true) := by
    by_cases hk : 1 ≤ op ∧ op ≤ 9
    · have : op = 1 ∨ op = 2 ∨ op = 3 ∨ op = 4 ∨ op = 5 ∨ op = 6 ∨ op = 7 ∨ op = 8 ∨ op = 9 := by omega
      rcases this with rfl | rfl | rfl | rfl | rfl | rfl | rfl | rfl | rfl <;> exact ⟨_, rfl, .inr ⟨_, rfl, rfl⟩⟩
    · refine ⟨none, find_no _ _ _ (fun e he => ?_), .inl ⟨rfl, by simp [known]; omega, by simp [lo]; omega, ?_⟩⟩
      · simp only [spanRow, List.mem_cons, List.not_mem_nil, or_false] at he
        rcases he with rfl | rfl | rfl | rfl | rfl | rfl | rfl | rfl | rfl <;> exact ⟨_, rfl, by omega⟩
      · unfold hi
        rw [if_neg (by omega), if_neg (by omega), if_neg (by omega), if_neg (by omega), if_neg (by omega)]
  obtain ⟨a, ha, hk⟩ := key
  have h2 := MapKept.run_findKey (P := Tryz.prog) (w := w) Tryz.underlying62 ha
  rcases hk with ⟨rfl, q1, q2, q3⟩ | ⟨i, rfl, q1⟩
  · simp [Instr.lookup, run_underlying Tryz.underlying185, MapKept.run_getObj_map hb, he, h1, h2, hz, q1, q2, q3, Result.andThen]
  · simp [Instr.lookup, run_underlying Tryz.underlying185, MapKept.run_getObj_map hb, he, h1, h2, q1, Result.andThen]
theorem holds_ok (a b x : Int) (w : World) : Calls Tryz.prog 93 #[.agg #[.int .i64 a, .int .i64 b], .int .i64 x] w fun e w' => e = .returned (.bool (decide (a ≤ x ∧ x ≤ b))) ∧ Below w.heap.size w w' := by
  by_cases h1 : a ≤ x
  · by_cases h2 : x ≤ b
    · go_enter Tryz.func93, Tryz.ntmps93
      go_wp2
      go_ret
      exact ⟨by simp [h1, h2], (Below.refl _ _).alloc (Nat.le_refl _) _⟩
    · go_enter Tryz.func93, Tryz.ntmps93
      go_wp2
      go_ret
      exact ⟨by simp [h2], (Below.refl _ _).alloc (Nat.le_refl _) _⟩
  · go_enter Tryz.func93, Tryz.ntmps93
    go_wp2
    go_ret
    exact ⟨by simp; omega, (Below.refl _ _).alloc (Nat.le_refl _) _⟩
end Go.Proofs.YtjlbmmiomfpgiaaGreatDoor.Ex
namespace Go.Proofs.YtjlbmmiomfpgiaaGreatDoor.Ex
set_option maxRecDepth 100000
open Go.RowKit Go.Lib
/-- A slice of instructions: its cells. -/
def Prg (w : World) (a : Option Addr) (len : Nat) (O R : Nat → Int) : Prop :=
  len = 0 ∨ ∃ lb off, a = some ⟨lb, off, none⟩ ∧ lb < w.heap.size ∧ ∀ j, j < len → w.cell? ⟨lb, off + j * 2, none⟩ = some (.int .i64 (O j)) ∧ w.cell? ⟨lb, off + j * 2 + 1, none⟩ = some (.int .i64 (R j))
theorem Prg.below {w w' : World} {a : Option Addr} {len : Nat} {O R : Nat → Int} (h : Prg w a len O R) (hb : Below w.heap.size w w') : Prg w' a len O R := by
  rcases h with h | ⟨lb, off, rfl, hlb, hc⟩
  · exact .inl h
  · refine .inr ⟨lb, off, rfl, Nat.lt_of_lt_of_le hlb hb.size, fun j hj => ?_⟩
    obtain ⟨q1, q2⟩ := hc j hj
    exact ⟨(hb.cell (p := ⟨lb, off + j * 2, none⟩) hlb).trans q1, (hb.cell (p := ⟨lb, off + j * 2 + 1, none⟩) hlb).trans q2⟩
/-- Is an instruction right, in a program of n? -/
def okI (n op arg : Int) : Bool := known op && decide (lo op ≤ arg ∧ arg ≤ hi n op)
/-- What Check answers. -/
def Chk (len : Nat) (O R : Nat → Int) (e at_ : Int) : Prop :=
  ((len < 1 ∨ 64 < len) ∧ e = 3 ∧ at_ = 0) ∨
  (1 ≤ len ∧ len ≤ 64 ∧ ∃ j : Nat, j < len ∧ (∀ i, i < j → okI len (O i) (R i) = true) ∧ okI len (O j) (R j) = false ∧ e = 3 ∧ at_ = j) ∨
  (1 ≤ len ∧ len ≤ 64 ∧ (∀ i, i < len → okI len (O i) (R i) = true) ∧ O (len - 1) ≠ 8 ∧ O (len - 1) ≠ 9 ∧ e = 3 ∧ at_ = ((len - 1 : Nat) : Int)) ∨
  (1 ≤ len ∧ len ≤ 64 ∧ (∀ i, i < len → okI len (O i) (R i) = true) ∧ (O (len - 1) = 8 ∨ O (len - 1) = 9) ∧ e = 0 ∧ at_ = 0)
theorem Chk.one {len : Nat} {O R : Nat → Int} {e a e' a' : Int} (h : Chk len O R e a) (h' : Chk len O R e' a') : e' = e ∧ a' = a := by
  have no : ∀ {j i : Nat}, okI len (O j) (R j) = false → (∀ k, k < i → okI len (O k) (R k) = true) → j < i → False := by
    intro j i h1 h2 h3
    rw [h2 j h3] at h1
    cases h1
  rcases h with ⟨h1, h2, h3⟩ | ⟨h1, h2, j, h3, h4, h5, h6, h7⟩ | ⟨h1, h2, h3, h4, h5, h6, h7⟩ | ⟨h1, h2, h3, h4, h5, h6⟩ <;>
  rcases h' with ⟨g1, g2, g3⟩ | ⟨g1, g2, i, g3, g4, g5, g6, g7⟩ | ⟨g1, g2, g3, g4, g5, g6, g7⟩ | ⟨g1, g2, g3, g4, g5, g6⟩ <;> subst_vars <;> try omega
  · have : i = j := by
      rcases Nat.lt_trichotomy i j with q | q | q
      · exact (no g5 h4 q).elim
      · exact q
      · exact (no h5 g4 q).elim
    subst this
    exact ⟨rfl, rfl⟩
  all_goals first | exact (no h5 g3 h3).elim | exact (no g5 h3 g3).elim
set_option maxRecDepth 100000 in
theorem check_ok (w : World) (a : Option Addr) (len cap : Nat) (hlen : len < 9223372036854775808) (O R : Nat → Int) (hp : Prg w a len O R) :
    Calls Tryz.prog 47 #[.slice a len cap] w fun e w' => ∃ x y : Int, e = .returned (.tuple #[.int .i64 x, .int .i64 y]) ∧ Chk len O R x y ∧ Below w.heap.size w w' := by
  by_cases hl1 : len < 1
  · have hl1' : (len : Int) < 1 := by omega
    go_enter Tryz.func47, Tryz.ntmps47
    go_wp2
    go_ret2
    exact ⟨_, _, rfl, .inl ⟨.inl hl1, rfl, rfl⟩, Below.refl _ _⟩
  by_cases hl2 : 64 < len
  · have hl1' : ¬ (len : Int) < 1 := by omega
    have hl2' : 64 < (len : Int) := by omega
    go_enter Tryz.func47, Tryz.ntmps47
    go_wp2
    go_ret2
    exact ⟨_, _, rfl, .inl ⟨.inr hl2, rfl, rfl⟩, Below.refl _ _⟩
  have hl1' : ¬ (len : Int) < 1 := by omega
  have hl2' : ¬ 64 < (len : Int) := by omega
  have HP := veil hp
  have HS := veil (spans_ok w len (by omega) (by omega))
  clear hp
  go_enter Tryz.func47, Tryz.ntmps47
  go_wp2_with (go_at_call 92; refine (HS.out).mono ?_; rintro e w1 ⟨rfl, hw⟩; have HW := veil hw; clear hw)
  have HM : Hid (w1.heap[w.heap.size]? = some (.map (spanRow len).toArray 9)) := by rw [HW.out]; exact heap_alloc_new w _
  have HL : Hid (Below w.heap.size w w1) := by rw [HW.out]; exact (Below.refl _ _).alloc (Nat.le_refl _) _
  have hsz : w1.heap.size = w.heap.size + 1 := by rw [HW.out]; simp [spanW]
  clear HW HS
  have hcap : 0 ≤ (len : Int) := by omega
  go_loopw [23] (fun i wr => ∃ (j : Nat), j ≤ len ∧ i = .int .i64 j ∧ (∀ k, k < j → okI len (O k) (R k) = true) ∧ Below w1.heap.size w1 wr) (fun i _ => len - (intOf i).toNat)
  case atStart => exact ⟨0, by omega, rfl, fun k hk => by omega, Below.refl _ _⟩
  case round =>
    obtain ⟨j, hj, rfl, hall, hbel⟩ := hrel
    by_cases hjl : j < len
    · have hjl' : (j : Int) < (len : Int) := by omega
      rcases HP.out with h0 | ⟨lb, off, rfl, hlb, hc⟩
      · omega
      · obtain ⟨z1, z2⟩ := hc j hjl
        have y1 := (hbel.cell (p := ⟨lb, off + j * 2, none⟩) (by simp; omega)).trans ((HL.out.cell (p := ⟨lb, off + j * 2, none⟩) hlb).trans z1)
        have y2 := (hbel.cell (p := ⟨lb, off + j * 2 + 1, none⟩) (by simp; omega)).trans ((HL.out.cell (p := ⟨lb, off + j * 2 + 1, none⟩) hlb).trans z2)
        have HB := veil hbel
        have HA := veil hall
        clear hc z1 z2 hbel hall
        have hm : (wr.alloc (.cells #[.int .i64 (O j), .int .i64 (R j)] 64)).heap[w.heap.size]? = some (.map (spanRow len).toArray 9) := by
          rw [Below.heap_alloc _ _ _ (by have := HB.out.size; omega), HB.out.block _ (by omega)]
          exact HM.out
        have hk := look_span _ _ _ (O j) hm
        clear hm
        cases hkn : known (O j) with
        | false =>
          rw [hkn] at hk
          go_wp2
          go_ret2
          exact ⟨_, _, rfl, .inr (.inl ⟨by omega, by omega, j, hjl, HA.out, by simp [okI, hkn], rfl, rfl⟩), HL.out.trans (((HB.out.mono (by omega)).alloc (by have := HB.out.size; omega) _).alloc (by have := HB.out.size; simp; omega) _)⟩
        | true =>
          rw [hkn] at hk
          have HH := veil (fun W => holds_ok (lo (O j)) (hi len (O j)) (R j) W)
          cases hin : decide (lo (O j) ≤ R j ∧ R j ≤ hi len (O j)) with
          | false =>
            rw [hin] at HH
            go_wp2_with (go_at_call 93; refine (HH.out _).mono ?_; rintro e w2 ⟨rfl, hb⟩; have HB2 := veil hb; clear hb)
            go_ret2
            exact ⟨_, _, rfl, .inr (.inl ⟨by omega, by omega, j, hjl, HA.out, by simp only [okI, hkn, hin, Bool.and_false], rfl, rfl⟩), (HL.out.trans (((HB.out.mono (by omega)).alloc (by have := HB.out.size; omega) _).alloc (by have := HB.out.size; simp; omega) _)).trans (HB2.out.mono (by have := HB.out.size; simp; omega))⟩
          | true =>
            rw [hin] at HH
            go_wp2_with (go_at_call 93; refine (HH.out _).mono ?_; rintro e w2 ⟨rfl, hb⟩; have HB2 := veil hb; clear hb)
            go_roundw
            case rel =>
              refine ⟨j + 1, by omega, by go_num, fun k hk' => ?_, (((HB.out).alloc (by have := HB.out.size; omega) _).alloc (by have := HB.out.size; simp; omega) _).trans (HB2.out.mono (by have := HB.out.size; simp; omega))⟩
              by_cases q : k = j
              · subst q; simp only [okI, hkn, hin, Bool.and_self]
              · exact HA.out k (by omega)
            case measure => simp [intOf]; omega
    · have hjl' : ¬ (j : Int) < (len : Int) := by omega
      obtain rfl : j = len := by omega
      rcases HP.out with h0 | ⟨lb, off, rfl, hlb, hc⟩
      · omega
      obtain ⟨z1, _⟩ := hc (j - 1) (by omega)
      have y1 := (hbel.cell (p := ⟨lb, off + (j - 1) * 2, none⟩) (by simp; omega)).trans ((HL.out.cell (p := ⟨lb, off + (j - 1) * 2, none⟩) hlb).trans z1)
      have HB := veil hbel
      have HA := veil hall
      clear hc z1 hbel hall
      obtain ⟨n, rfl⟩ : ∃ n, j = n + 1 := ⟨j - 1, by omega⟩
      have e1 : ((n + 1 : Nat) : Int) - 1 = (n : Nat) := by omega
      have e2 : (n : Int) < ((n + 1 : Nat) : Int) := by omega
      simp only [Nat.add_sub_cancel] at y1
      have HL2 : Hid (Below w.heap.size w wr) := HL.out.trans (HB.out.mono (by omega))
      clear HL HB HM
      by_cases h8 : O n = 8
      · go_wp2
        go_ret2
        exact ⟨_, _, rfl, .inr (.inr (.inr ⟨by omega, by omega, HA.out, .inl h8, rfl, rfl⟩)), HL2.out⟩
      · by_cases h9 : O n = 9
        · go_wp2
          go_ret2
          exact ⟨_, _, rfl, .inr (.inr (.inr ⟨by omega, by omega, HA.out, .inr h9, rfl, rfl⟩)), HL2.out⟩
        · have b8 : (O n != 8) = true := by simpa using h8
          have b9 : (O n != 9) = true := by simpa using h9
          go_wp2
          go_ret2
          exact ⟨_, _, rfl, .inr (.inr (.inl ⟨by omega, by omega, HA.out, h8, h9, rfl, by go_num⟩)), HL2.out⟩
end Go.Proofs.YtjlbmmiomfpgiaaGreatDoor.Ex
namespace Go.Proofs.YtjlbmmiomfpgiaaGreatDoor.Ex
set_option maxRecDepth 100000
open Go.RowKit Go.Lib Go.Deep Go.ChangeShapes Go.WideShapes Go.ChangeAt
set_option linter.unusedVariables false
/-- A right program. -/
def Rt (len : Nat) (O R : Nat → Int) : Prop := ∃ y, Chk len O R 0 y
theorem check_known (w : World) (a : Option Addr) (len cap : Nat) (hlen : len < 9223372036854775808) (O R : Nat → Int) (hp : Prg w a len O R) (x y : Int) (h : Chk len O R x y) :
    Calls Tryz.prog 47 #[.slice a len cap] w fun e w' => e = .returned (.tuple #[.int .i64 x, .int .i64 y]) ∧ Below w.heap.size w w' :=
  (check_ok w a len cap hlen O R hp).mono fun e w' ⟨x', y', he, hc, hb⟩ => by
    obtain ⟨rfl, rfl⟩ := h.one hc
    exact ⟨he, hb⟩
theorem first_bad (f : Nat → Bool) : ∀ n, (∀ i, i < n → f i = true) ∨ ∃ j, j < n ∧ (∀ i, i < j → f i = true) ∧ f j = false
  | 0 => .inl (fun i hi => by omega)
  | n + 1 => by
    rcases first_bad f n with h | ⟨j, h1, h2, h3⟩
    · cases hk : f n with
      | true =>
        refine .inl (fun i hi => ?_)
        by_cases q : i = n
        · rw [q]; exact hk
        · exact h i (by omega)
      | false => exact .inr ⟨n, by omega, h, hk⟩
    · exact .inr ⟨j, by omega, h2, h3⟩
/-- The cells of a program, up to a place. -/
def pcells (O R : Nat → Int) : Nat → List Value
  | 0 => []
  | k + 1 => pcells O R k ++ [.int .i64 (O k), .int .i64 (R k)]
theorem pcells_length (O R : Nat → Int) : ∀ k, (pcells O R k).length = k * 2
  | 0 => rfl
  | k + 1 => by simp [pcells, pcells_length O R k]; omega
theorem pcells_at (O R : Nat → Int) : ∀ (k i : Nat), i < k → (pcells O R k)[i * 2]? = some (.int .i64 (O i)) ∧ (pcells O R k)[i * 2 + 1]? = some (.int .i64 (R i))
  | k + 1, i, h => by
    by_cases q : i = k
    · subst q
      simp only [pcells]
      constructor
      · rw [List.getElem?_append_right (by rw [pcells_length]; omega), pcells_length]
        simp
      · rw [List.getElem?_append_right (by rw [pcells_length]; omega), pcells_length]
        simp
    · have := pcells_at O R k i (by omega)
      simp only [pcells]
      rw [List.getElem?_append_left (by rw [pcells_length]; omega), List.getElem?_append_left (by rw [pcells_length]; omega)]
      exact this
section
variable {H : Type} {enc : TypeId × Value → H} {w : World} {base : Nat} {spare : Nat → Bool} {held : Bool}
end
end Go.Proofs.YtjlbmmiomfpgiaaGreatDoor.Ex
namespace Go.Proofs.YtjlbmmiomfpgiaaGreatDoor.Ex
set_option maxRecDepth 100000
open Go.RowKit Go.Lib Go.Deep Go.ChangeShapes Go.WideShapes Go.ChangeAt
set_option linter.unusedVariables false
@[go_sem] theorem field_at (x y : Value) (w : World) : (Instr.field 109 (.agg #[x, y]) 0).run Tryz.prog w = .ok x w := by kernel_rfl
@[go_sem] theorem field_left (x y : Value) (w : World) : (Instr.field 109 (.agg #[x, y]) 1).run Tryz.prog w = .ok y w := by kernel_rfl
end Go.Proofs.YtjlbmmiomfpgiaaGreatDoor.Ex
