/- YtjlbmmiomfpgiaaGreatDoorGn: of the texts O1 O2 O3 J1 J2 J3 J4 J5 J6 J7 J8 what is wanted. -/
import Derived.Test.YtjlbmmiomfpgiaaGreatDoorRows
import Derived.WalkKit
import Derived.Below
import Derived.WalkSpells
import Derived.WalkLawsBesides
import Derived.StillTactics
import Derived.RegionTactic
import Derived.RowKit3
import Derived.Laws.MakeOwn
import Derived.OwnWalk
import Derived.Deep.QuietTactic
import Derived.BigQuiet
import Derived.Laws.OwnMore
import Derived.Maps.AppendAt
import Derived.Deep.AppendLies
import Derived.Deep.RegionHeld3
import Derived.Deep.DrawnRows
import Derived.Lib.SmallJoins
import Derived.OneCell
import Derived.ProofKit
import Derived.Deep.Slices
import Derived.Deep.Strs
import Derived.ChangeOld
import Derived.OpenShut
namespace Go.Proofs.YtjlbmmiomfpgiaaGreatDoor.Ex
set_option maxRecDepth 100000
open Go.RowKit Go.Lib
set_option linter.unusedVariables false
theorem veil {p : Prop} (h : p) : Hid p := h
def ent (k a b : Int) (n : Nat) : MapEntry := { key := .int .i64 k, val := .agg #[.int .i64 a, .int .i64 b], born := n }
def spanRow (n : Int) : List MapEntry :=
 [ent 1 1 65536 0, ent 2 0 31 1, ent 3 0 31 2, ent 4 0 15 3, ent 5 1 65536 4, ent 6 0 0 5, ent 7 0 255 6, ent 8 0 (n - 1) 7, ent 9 0 0 8]
theorem find_no (k : Int) : ∀ (l : List MapEntry) (i : Nat), (∀ e ∈ l, ∃ x, e.key = .int .i64 x ∧ x ≠ k) → Instr.findNow (.int .i64) (.int .i64 k) l i = some none
 | [], _, _ => rfl
 | e :: l, i, h => by
  obtain ⟨x, h1, h2⟩ := h e (by simp)
  have hne : (k == x) = false := by simp; exact fun q => h2 q.symm
  simp [Instr.findNow, h1, Instr.sameNow, hne, find_no k l (i + 1) (fun e' he => h e' (by simp [he]))]
theorem run_put (w : World) (l : List MapEntry) (c : Nat) (k : Int) (v : Value) (h : ∀ e ∈ l, ∃ x, e.key = .int .i64 x ∧ x ≠ k) :
  (Instr.mapUpdate 185 (.map (some w.heap.size)) (.int .i64 k) v).run Tryz.prog (w.alloc (.map l.toArray c)) = .ok () (w.alloc (.map (l ++ [MapEntry.mk (.int .i64 k) v c]).toArray (c + 1))) := by
 have hf := find_no k l 0 h
 have hg : (w.alloc (.map l.toArray c)).heap[w.heap.size]? = some (.map l.toArray c) := heap_alloc_new w _
 have h1 := MapKept.run_checkKey (P := Tryz.prog) (w := w.alloc (.map l.toArray c)) (k := .int .i64 k) Tryz.underlying62 (by simp [MapKept.IsKey]) false 9999
 have h2 := MapKept.run_findKey (P := Tryz.prog) (w := w.alloc (.map l.toArray c)) Tryz.underlying62 hf
 have h3 : Array.setIfInBounds (w.heap.push (.map l.toArray c)) w.heap.size (.map (l ++ [MapEntry.mk (.int .i64 k) v c]).toArray (c + 1)) = w.heap.push (.map (l ++ [MapEntry.mk (.int .i64 k) v c]).toArray (c + 1)) := by
  apply Array.ext
  ·simp
  ·intro i h4 h5
   simp at h4 h5
   by_cases hi : i = w.heap.size
   ·subst hi; simp
   ·rw [Array.getElem_setIfInBounds_ne (by simpa using h4) (by omega), Array.getElem_push_lt (by omega), Array.getElem_push_lt (by omega)]
 simp [Instr.mapUpdate, run_underlying Tryz.underlying185, MapKept.run_getObj_map hg, h1, h2, MapKept.run_setObj_map _ hg, Result.andThen]
 show ({ w with heap := Array.setIfInBounds (w.heap.push (.map l.toArray c)) w.heap.size (.map (l ++ [MapEntry.mk (.int .i64 k) v c]).toArray (c + 1)) } : World) = _
 rw [h3]
 rfl
def spanW (w : World) (n : Int) (k : Nat) : World := w.alloc (.map ((spanRow n).take k).toArray k)
theorem put1 (w : World) (n : Int) : (Instr.mapUpdate 185 (.map (some w.heap.size)) (.int .i64 1) (.agg #[.int .i64 1, .int .i64 65536])).run Tryz.prog (spanW w n 0) = .ok () (spanW w n 1) :=
 run_put w ((spanRow n).take 0) 0 1 _ (by simp [spanRow, ent])
theorem put2 (w : World) (n : Int) : (Instr.mapUpdate 185 (.map (some w.heap.size)) (.int .i64 2) (.agg #[.int .i64 0, .int .i64 31])).run Tryz.prog (spanW w n 1) = .ok () (spanW w n 2) :=
 run_put w ((spanRow n).take 1) 1 2 _ (by simp [spanRow, ent])
theorem put3 (w : World) (n : Int) : (Instr.mapUpdate 185 (.map (some w.heap.size)) (.int .i64 3) (.agg #[.int .i64 0, .int .i64 31])).run Tryz.prog (spanW w n 2) = .ok () (spanW w n 3) :=
 run_put w ((spanRow n).take 2) 2 3 _ (by simp [spanRow, ent])
theorem put4 (w : World) (n : Int) : (Instr.mapUpdate 185 (.map (some w.heap.size)) (.int .i64 4) (.agg #[.int .i64 0, .int .i64 15])).run Tryz.prog (spanW w n 3) = .ok () (spanW w n 4) :=
 run_put w ((spanRow n).take 3) 3 4 _ (by simp [spanRow, ent])
theorem put5 (w : World) (n : Int) : (Instr.mapUpdate 185 (.map (some w.heap.size)) (.int .i64 5) (.agg #[.int .i64 1, .int .i64 65536])).run Tryz.prog (spanW w n 4) = .ok () (spanW w n 5) :=
 run_put w ((spanRow n).take 4) 4 5 _ (by simp [spanRow, ent])
theorem put6 (w : World) (n : Int) : (Instr.mapUpdate 185 (.map (some w.heap.size)) (.int .i64 6) (.agg #[.int .i64 0, .int .i64 0])).run Tryz.prog (spanW w n 5) = .ok () (spanW w n 6) :=
 run_put w ((spanRow n).take 5) 5 6 _ (by simp [spanRow, ent])
theorem put7 (w : World) (n : Int) : (Instr.mapUpdate 185 (.map (some w.heap.size)) (.int .i64 7) (.agg #[.int .i64 0, .int .i64 255])).run Tryz.prog (spanW w n 6) = .ok () (spanW w n 7) :=
 run_put w ((spanRow n).take 6) 6 7 _ (by simp [spanRow, ent])
theorem put8 (w : World) (n : Int) : (Instr.mapUpdate 185 (.map (some w.heap.size)) (.int .i64 8) (.agg #[.int .i64 0, .int .i64 (n - 1)])).run Tryz.prog (spanW w n 7) = .ok () (spanW w n 8) :=
 run_put w ((spanRow n).take 7) 7 8 _ (by simp [spanRow, ent])
theorem put9 (w : World) (n : Int) : (Instr.mapUpdate 185 (.map (some w.heap.size)) (.int .i64 9) (.agg #[.int .i64 0, .int .i64 0])).run Tryz.prog (spanW w n 8) = .ok () (spanW w n 9) :=
 run_put w ((spanRow n).take 8) 8 9 _ (by simp [spanRow, ent])
theorem spans_ok (w : World) (n : Int) (h1 : 1 ≤ n) (h2 : n ≤ 64) :
  Calls Tryz.prog 92 #[.int .i64 n] w fun e w' => e = .returned (.map (some w.heap.size)) ∧ w' = spanW w n 9 := by
 have hm : (Instr.makeMap 185 none).run Tryz.prog w = .ok (.map (some w.heap.size)) (spanW w n 0) := rfl
 have p1 := put1 w n
 have p2 := put2 w n
 have p3 := put3 w n
 have p4 := put4 w n
 have p5 := put5 w n
 have p6 := put6 w n
 have p7 := put7 w n
 have p8 := put8 w n
 have p9 := put9 w n
 go_enter Tryz.func92, Tryz.ntmps92
 go_wp2
 go_ret
 exact ⟨rfl, rfl⟩
def lo (op : Int) : Int := if op = 1 ∨ op = 5 then 1 else 0
def hi (n op : Int) : Int := if op = 1 ∨ op = 5 then 65536 else if op = 2 ∨ op = 3 then 31 else if op = 4 then 15 else if op = 7 then 255 else if op = 8 then n - 1 else 0
def known (op : Int) : Bool := decide (1 ≤ op ∧ op ≤ 9)
theorem look_span (w : World) (b : Nat) (n op : Int) (hb : w.heap[b]? = some (.map (spanRow n).toArray 9)) :
  (Instr.lookup 185 (.map (some b)) (.int .i64 op) true).run Tryz.prog w = .ok (.tuple #[.agg #[.int .i64 (lo op), .int .i64 (hi n op)], .bool (known op)]) w := by
 have h1 := MapKept.run_checkKey (P := Tryz.prog) (w := w) (k := .int .i64 op) Tryz.underlying62 (by simp [MapKept.IsKey]) false 9999
 have hz : (zeroValue 188).run Tryz.prog w = .ok (.agg #[.int .i64 0, .int .i64 0]) w := by kernel_rfl
 have he : (spanRow n).toArray.isEmpty = false := rfl
 have key : ∃ a, Instr.findNow (.int .i64) (.int .i64 op) (spanRow n) 0 = some a ∧ ((a = none ∧ known op = false ∧ lo op = 0 ∧ hi n op = 0) ∨ ∃ i, a = some (i, .agg #[.int .i64 (lo op), .int .i64 (hi n op)]) ∧ known op = true) := by
  by_cases hk : 1 ≤ op ∧ op ≤ 9
  ·have : op = 1 ∨ op = 2 ∨ op = 3 ∨ op = 4 ∨ op = 5 ∨ op = 6 ∨ op = 7 ∨ op = 8 ∨ op = 9 := by omega
   rcases this with rfl | rfl | rfl | rfl | rfl | rfl | rfl | rfl | rfl <;> exact ⟨_, rfl, .inr ⟨_, rfl, rfl⟩⟩
  ·refine ⟨none, find_no _ _ _ (fun e he => ?_), .inl ⟨rfl, by simp [known]; omega, by simp [lo]; omega, ?_⟩⟩
   ·simp only [spanRow, List.mem_cons, List.not_mem_nil, or_false] at he
    rcases he with rfl | rfl | rfl | rfl | rfl | rfl | rfl | rfl | rfl <;> exact ⟨_, rfl, by omega⟩
   ·unfold hi
    rw [if_neg (by omega), if_neg (by omega), if_neg (by omega), if_neg (by omega), if_neg (by omega)]
 obtain ⟨a, ha, hk⟩ := key
 have h2 := MapKept.run_findKey (P := Tryz.prog) (w := w) Tryz.underlying62 ha
 rcases hk with ⟨rfl, q1, q2, q3⟩ | ⟨i, rfl, q1⟩
 ·simp [Instr.lookup, run_underlying Tryz.underlying185, MapKept.run_getObj_map hb, he, h1, h2, hz, q1, q2, q3, Result.andThen]
 ·simp [Instr.lookup, run_underlying Tryz.underlying185, MapKept.run_getObj_map hb, he, h1, h2, q1, Result.andThen]
theorem holds_ok (a b x : Int) (w : World) : Calls Tryz.prog 93 #[.agg #[.int .i64 a, .int .i64 b], .int .i64 x] w fun e w' => e = .returned (.bool (decide (a ≤ x ∧ x ≤ b))) ∧ Below w.heap.size w w' := by
 by_cases h1 : a ≤ x
 ·by_cases h2 : x ≤ b
  ·go_enter Tryz.func93, Tryz.ntmps93
   go_wp2
   go_ret
   exact ⟨by simp [h1, h2], (Below.refl _ _).alloc (Nat.le_refl _) _⟩
  ·go_enter Tryz.func93, Tryz.ntmps93
   go_wp2
   go_ret
   exact ⟨by simp [h2], (Below.refl _ _).alloc (Nat.le_refl _) _⟩
 ·go_enter Tryz.func93, Tryz.ntmps93
  go_wp2
  go_ret
  exact ⟨by simp; omega, (Below.refl _ _).alloc (Nat.le_refl _) _⟩
end Go.Proofs.YtjlbmmiomfpgiaaGreatDoor.Ex
namespace Go.Proofs.YtjlbmmiomfpgiaaGreatDoor.Ex
set_option maxRecDepth 100000
open Go.RowKit Go.Lib
def Prg (w : World) (a : Option Addr) (len : Nat) (O R : Nat → Int) : Prop :=
 len = 0 ∨ ∃ lb off, a = some ⟨lb, off, none⟩ ∧ lb < w.heap.size ∧ ∀ j, j < len → w.cell? ⟨lb, off + j * 2, none⟩ = some (.int .i64 (O j)) ∧ w.cell? ⟨lb, off + j * 2 + 1, none⟩ = some (.int .i64 (R j))
theorem Prg.below {w w' : World} {a : Option Addr} {len : Nat} {O R : Nat → Int} (h : Prg w a len O R) (hb : Below w.heap.size w w') : Prg w' a len O R := by
 rcases h with h | ⟨lb, off, rfl, hlb, hc⟩
 ·exact .inl h
 ·refine .inr ⟨lb, off, rfl, Nat.lt_of_lt_of_le hlb hb.size, fun j hj => ?_⟩
  obtain ⟨q1, q2⟩ := hc j hj
  exact ⟨(hb.cell (p := ⟨lb, off + j * 2, none⟩) hlb).trans q1, (hb.cell (p := ⟨lb, off + j * 2 + 1, none⟩) hlb).trans q2⟩
def okI (n op arg : Int) : Bool := known op && decide (lo op ≤ arg ∧ arg ≤ hi n op)
def Chk (len : Nat) (O R : Nat → Int) (e at_ : Int) : Prop :=
 ((len < 1 ∨ 64 < len) ∧ e = 3 ∧ at_ = 0) ∨
 (1 ≤ len ∧ len ≤ 64 ∧ ∃ j : Nat, j < len ∧ (∀ i, i < j → okI len (O i) (R i) = true) ∧ okI len (O j) (R j) = false ∧ e = 3 ∧ at_ = j) ∨
 (1 ≤ len ∧ len ≤ 64 ∧ (∀ i, i < len → okI len (O i) (R i) = true) ∧ O (len - 1) ≠ 8 ∧ O (len - 1) ≠ 9 ∧ e = 3 ∧ at_ = ((len - 1 : Nat) : Int)) ∨
 (1 ≤ len ∧ len ≤ 64 ∧ (∀ i, i < len → okI len (O i) (R i) = true) ∧ (O (len - 1) = 8 ∨ O (len - 1) = 9) ∧ e = 0 ∧ at_ = 0)
theorem Chk.one {len : Nat} {O R : Nat → Int} {e a e' a' : Int} (h : Chk len O R e a) (h' : Chk len O R e' a') : e' = e ∧ a' = a := by
 have no : ∀ {j i : Nat}, okI len (O j) (R j) = false → (∀ k, k < i → okI len (O k) (R k) = true) → j < i → False := by
  intro j i h1 h2 h3
  rw [h2 j h3] at h1
  cases h1
 rcases h with ⟨h1, h2, h3⟩ | ⟨h1, h2, j, h3, h4, h5, h6, h7⟩ | ⟨h1, h2, h3, h4, h5, h6, h7⟩ | ⟨h1, h2, h3, h4, h5, h6⟩ <;>
 rcases h' with ⟨g1, g2, g3⟩ | ⟨g1, g2, i, g3, g4, g5, g6, g7⟩ | ⟨g1, g2, g3, g4, g5, g6, g7⟩ | ⟨g1, g2, g3, g4, g5, g6⟩ <;> subst_vars <;> try omega
 ·have : i = j := by
   rcases Nat.lt_trichotomy i j with q | q | q
   ·exact (no g5 h4 q).elim
   ·exact q
   ·exact (no h5 g4 q).elim
  subst this
  exact ⟨rfl, rfl⟩
 all_goals first | exact (no h5 g3 h3).elim | exact (no g5 h3 g3).elim
set_option maxRecDepth 100000 in
theorem check_ok (w : World) (a : Option Addr) (len cap : Nat) (hlen : len < 9223372036854775808) (O R : Nat → Int) (hp : Prg w a len O R) :
  Calls Tryz.prog 47 #[.slice a len cap] w fun e w' => ∃ x y : Int, e = .returned (.tuple #[.int .i64 x, .int .i64 y]) ∧ Chk len O R x y ∧ Below w.heap.size w w' := by
 by_cases hl1 : len < 1
 ·have hl1' : (len : Int) < 1 := by omega
  go_enter Tryz.func47, Tryz.ntmps47
  go_wp2
  go_ret2
  exact ⟨_, _, rfl, .inl ⟨.inl hl1, rfl, rfl⟩, Below.refl _ _⟩
 by_cases hl2 : 64 < len
 ·have hl1' : ¬ (len : Int) < 1 := by omega
  have hl2' : 64 < (len : Int) := by omega
  go_enter Tryz.func47, Tryz.ntmps47
  go_wp2
  go_ret2
  exact ⟨_, _, rfl, .inl ⟨.inr hl2, rfl, rfl⟩, Below.refl _ _⟩
 have hl1' : ¬ (len : Int) < 1 := by omega
 have hl2' : ¬ 64 < (len : Int) := by omega
 have HP := veil hp
 have HS := veil (spans_ok w len (by omega) (by omega))
 clear hp
 go_enter Tryz.func47, Tryz.ntmps47
 go_wp2_with (go_at_call 92; refine (HS.out).mono ?_; rintro e w1 ⟨rfl, hw⟩; have HW := veil hw; clear hw)
 have HM : Hid (w1.heap[w.heap.size]? = some (.map (spanRow len).toArray 9)) := by rw [HW.out]; exact heap_alloc_new w _
 have HL : Hid (Below w.heap.size w w1) := by rw [HW.out]; exact (Below.refl _ _).alloc (Nat.le_refl _) _
 have hsz : w1.heap.size = w.heap.size + 1 := by rw [HW.out]; simp [spanW]
 clear HW HS
 have hcap : 0 ≤ (len : Int) := by omega
 go_loopw [23] (fun i wr => ∃ (j : Nat), j ≤ len ∧ i = .int .i64 j ∧ (∀ k, k < j → okI len (O k) (R k) = true) ∧ Below w1.heap.size w1 wr) (fun i _ => len - (intOf i).toNat)
 case atStart => exact ⟨0, by omega, rfl, fun k hk => by omega, Below.refl _ _⟩
 case round =>
  obtain ⟨j, hj, rfl, hall, hbel⟩ := hrel
  by_cases hjl : j < len
  ·have hjl' : (j : Int) < (len : Int) := by omega
   rcases HP.out with h0 | ⟨lb, off, rfl, hlb, hc⟩
   ·omega
   ·obtain ⟨z1, z2⟩ := hc j hjl
    have y1 := (hbel.cell (p := ⟨lb, off + j * 2, none⟩) (by simp; omega)).trans ((HL.out.cell (p := ⟨lb, off + j * 2, none⟩) hlb).trans z1)
    have y2 := (hbel.cell (p := ⟨lb, off + j * 2 + 1, none⟩) (by simp; omega)).trans ((HL.out.cell (p := ⟨lb, off + j * 2 + 1, none⟩) hlb).trans z2)
    have HB := veil hbel
    have HA := veil hall
    clear hc z1 z2 hbel hall
    have hm : (wr.alloc (.cells #[.int .i64 (O j), .int .i64 (R j)] 64)).heap[w.heap.size]? = some (.map (spanRow len).toArray 9) := by
     rw [Below.heap_alloc _ _ _ (by have := HB.out.size; omega), HB.out.block _ (by omega)]
     exact HM.out
    have hk := look_span _ _ _ (O j) hm
    clear hm
    cases hkn : known (O j) with
    | false =>
     rw [hkn] at hk
     go_wp2
     go_ret2
     exact ⟨_, _, rfl, .inr (.inl ⟨by omega, by omega, j, hjl, HA.out, by simp [okI, hkn], rfl, rfl⟩), HL.out.trans (((HB.out.mono (by omega)).alloc (by have := HB.out.size; omega) _).alloc (by have := HB.out.size; simp; omega) _)⟩
    | true =>
     rw [hkn] at hk
     have HH := veil (fun W => holds_ok (lo (O j)) (hi len (O j)) (R j) W)
     cases hin : decide (lo (O j) ≤ R j ∧ R j ≤ hi len (O j)) with
     | false =>
      rw [hin] at HH
      go_wp2_with (go_at_call 93; refine (HH.out _).mono ?_; rintro e w2 ⟨rfl, hb⟩; have HB2 := veil hb; clear hb)
      go_ret2
      exact ⟨_, _, rfl, .inr (.inl ⟨by omega, by omega, j, hjl, HA.out, by simp only [okI, hkn, hin, Bool.and_false], rfl, rfl⟩), (HL.out.trans (((HB.out.mono (by omega)).alloc (by have := HB.out.size; omega) _).alloc (by have := HB.out.size; simp; omega) _)).trans (HB2.out.mono (by have := HB.out.size; simp; omega))⟩
     | true =>
      rw [hin] at HH
      go_wp2_with (go_at_call 93; refine (HH.out _).mono ?_; rintro e w2 ⟨rfl, hb⟩; have HB2 := veil hb; clear hb)
      go_roundw
      case rel =>
       refine ⟨j + 1, by omega, by go_num, fun k hk' => ?_, (((HB.out).alloc (by have := HB.out.size; omega) _).alloc (by have := HB.out.size; simp; omega) _).trans (HB2.out.mono (by have := HB.out.size; simp; omega))⟩
       by_cases q : k = j
       ·subst q; simp only [okI, hkn, hin, Bool.and_self]
       ·exact HA.out k (by omega)
      case measure => simp [intOf]; omega
  ·have hjl' : ¬ (j : Int) < (len : Int) := by omega
   obtain rfl : j = len := by omega
   rcases HP.out with h0 | ⟨lb, off, rfl, hlb, hc⟩
   ·omega
   obtain ⟨z1, _⟩ := hc (j - 1) (by omega)
   have y1 := (hbel.cell (p := ⟨lb, off + (j - 1) * 2, none⟩) (by simp; omega)).trans ((HL.out.cell (p := ⟨lb, off + (j - 1) * 2, none⟩) hlb).trans z1)
   have HB := veil hbel
   have HA := veil hall
   clear hc z1 hbel hall
   obtain ⟨n, rfl⟩ : ∃ n, j = n + 1 := ⟨j - 1, by omega⟩
   have e1 : ((n + 1 : Nat) : Int) - 1 = (n : Nat) := by omega
   have e2 : (n : Int) < ((n + 1 : Nat) : Int) := by omega
   simp only [Nat.add_sub_cancel] at y1
   have HL2 : Hid (Below w.heap.size w wr) := HL.out.trans (HB.out.mono (by omega))
   clear HL HB HM
   by_cases h8 : O n = 8
   ·go_wp2
    go_ret2
    exact ⟨_, _, rfl, .inr (.inr (.inr ⟨by omega, by omega, HA.out, .inl h8, rfl, rfl⟩)), HL2.out⟩
   ·by_cases h9 : O n = 9
    ·go_wp2
     go_ret2
     exact ⟨_, _, rfl, .inr (.inr (.inr ⟨by omega, by omega, HA.out, .inr h9, rfl, rfl⟩)), HL2.out⟩
    ·have b8 : (O n != 8) = true := by simpa using h8
     have b9 : (O n != 9) = true := by simpa using h9
     go_wp2
     go_ret2
     exact ⟨_, _, rfl, .inr (.inr (.inl ⟨by omega, by omega, HA.out, h8, h9, rfl, by go_num⟩)), HL2.out⟩
end Go.Proofs.YtjlbmmiomfpgiaaGreatDoor.Ex
namespace Go.Proofs.YtjlbmmiomfpgiaaGreatDoor.Ex
set_option maxRecDepth 100000
open Go.RowKit Go.Lib Go.Deep Go.ChangeShapes Go.WideShapes Go.ChangeAt
set_option linter.unusedVariables false
theorem Chk.zero {len : Nat} {O R : Nat → Int} {y : Int} (h : Chk len O R 0 y) : 1 ≤ len ∧ len ≤ 64 ∧ (∀ i, i < len → okI len (O i) (R i) = true) ∧ (O (len - 1) = 8 ∨ O (len - 1) = 9) ∧ y = 0 := by
 rcases h with ⟨_, h, _⟩ | ⟨_, _, _, _, _, _, h, _⟩ | ⟨_, _, _, _, _, h, _⟩ | ⟨h1, h2, h3, h4, _, h5⟩
 ·omega
 ·omega
 ·omega
 ·exact ⟨h1, h2, h3, h4, h5⟩
def Rt (len : Nat) (O R : Nat → Int) : Prop := ∃ y, Chk len O R 0 y
theorem check_known (w : World) (a : Option Addr) (len cap : Nat) (hlen : len < 9223372036854775808) (O R : Nat → Int) (hp : Prg w a len O R) (x y : Int) (h : Chk len O R x y) :
  Calls Tryz.prog 47 #[.slice a len cap] w fun e w' => e = .returned (.tuple #[.int .i64 x, .int .i64 y]) ∧ Below w.heap.size w w' :=
 (check_ok w a len cap hlen O R hp).mono fun e w' ⟨x', y', he, hc, hb⟩ => by
  obtain ⟨rfl, rfl⟩ := h.one hc
  exact ⟨he, hb⟩
theorem first_bad (f : Nat → Bool) : ∀ n, (∀ i, i < n → f i = true) ∨ ∃ j, j < n ∧ (∀ i, i < j → f i = true) ∧ f j = false
 | 0 => .inl (fun i hi => by omega)
 | n + 1 => by
  rcases first_bad f n with h | ⟨j, h1, h2, h3⟩
  ·cases hk : f n with
   | true =>
    refine .inl (fun i hi => ?_)
    by_cases q : i = n
    ·rw [q]; exact hk
    ·exact h i (by omega)
   | false => exact .inr ⟨n, by omega, h, hk⟩
  ·exact .inr ⟨j, by omega, h2, h3⟩
theorem chk_total (len : Nat) (O R : Nat → Int) : ∃ x y, Chk len O R x y := by
 by_cases h1 : len < 1 ∨ 64 < len
 ·exact ⟨3, 0, .inl ⟨h1, rfl, rfl⟩⟩
 ·rcases first_bad (fun i => okI len (O i) (R i)) len with h2 | ⟨j, hj, h2, h3⟩
  ·by_cases h3 : O (len - 1) = 8 ∨ O (len - 1) = 9
   ·exact ⟨0, 0, .inr (.inr (.inr ⟨by omega, by omega, h2, h3, rfl, rfl⟩))⟩
   ·exact ⟨3, _, .inr (.inr (.inl ⟨by omega, by omega, h2, fun q => h3 (.inl q), fun q => h3 (.inr q), rfl, rfl⟩))⟩
  ·exact ⟨3, _, .inr (.inl ⟨by omega, by omega, j, hj, h2, h3, rfl, rfl⟩)⟩
def pcells (O R : Nat → Int) : Nat → List Value
 | 0 => []
 | k + 1 => pcells O R k ++ [.int .i64 (O k), .int .i64 (R k)]
theorem pcells_length (O R : Nat → Int) : ∀ k, (pcells O R k).length = k * 2
 | 0 => rfl
 | k + 1 => by simp [pcells, pcells_length O R k]; omega
theorem pcells_at (O R : Nat → Int) : ∀ (k i : Nat), i < k → (pcells O R k)[i * 2]? = some (.int .i64 (O i)) ∧ (pcells O R k)[i * 2 + 1]? = some (.int .i64 (R i))
 | k + 1, i, h => by
  by_cases q : i = k
  ·subst q
   simp only [pcells]
   constructor
   ·rw [List.getElem?_append_right (by rw [pcells_length]; omega), pcells_length]
    simp
   ·rw [List.getElem?_append_right (by rw [pcells_length]; omega), pcells_length]
    simp
  ·have := pcells_at O R k i (by omega)
   simp only [pcells]
   rw [List.getElem?_append_left (by rw [pcells_length]; omega), List.getElem?_append_left (by rw [pcells_length]; omega)]
   exact this
theorem prg_row {w : World} {base : Nat} {v : Value} {k : Nat} {O R : Nat → Int} (h : w.ownsRow base 64 2 v (k + 1) (pcells O R (k + 1))) : ∃ a cap, v = .slice a (k + 1) cap ∧ Prg w a (k + 1) O R := by
 rcases h.2 with ⟨_, h0⟩ | ⟨g, cap, cur, rfl, _, hb, _, _, _, ht⟩
 ·omega
 ·refine ⟨_, cap, rfl, .inr ⟨g, 0, rfl, (Array.getElem?_eq_some_iff.1 hb).1, fun j hj => ?_⟩⟩
  obtain ⟨p1, p2⟩ := pcells_at O R (k + 1) j hj
  have hz : ∀ i u, i < (k + 1) * 2 → (pcells O R (k + 1))[i]? = some u → w.cell? ⟨g, 0 + i, none⟩ = some u := by
   intro i u hi hu
   rw [← ht, List.getElem?_take_of_lt hi] at hu
   unfold World.cell?
   simp only [hb]
   simpa using hu
  refine ⟨hz _ _ (by omega) p1, ?_⟩
  have := hz (j * 2 + 1) _ (by omega) p2
  rw [← Nat.add_assoc] at this
  exact this
theorem prg_any {w : World} {base : Nat} {v : Value} {k : Nat} {O R : Nat → Int} (h : w.ownsRow base 64 2 v k (pcells O R k)) : ∃ a cap, v = .slice a k cap ∧ Prg w a k O R := by
 cases k with
 | zero =>
  rcases h.2 with ⟨rfl, _⟩ | ⟨g, cap, cur, rfl, _⟩
  ·exact ⟨_, _, rfl, .inl rfl⟩
  ·exact ⟨_, _, rfl, .inl rfl⟩
 | succ k => exact prg_row h
theorem info_instr : (Tryz.prog.info? 64).map (fun i => (i.zero, i.size, i.bytes)) = some (some (.agg #[.int .i64 0, .int .i64 0]), 2, 16) := by kernel_rfl
theorem info_parts {P : Program} {e : TypeId} {z : Value} {n m : Nat} (h : (P.info? e).map (fun i => (i.zero, i.size, i.bytes)) = some (some z, n, m)) : ∃ i, P.info? e = some i ∧ i.zero = some z ∧ i.size = n ∧ i.bytes = m := by
 cases hh : P.info? e with
 | none => rw [hh] at h; cases h
 | some i =>
  rw [hh] at h
  simp at h
  exact ⟨i, rfl, h.1, h.2.1, h.2.2⟩
section
variable {H : Type} {enc : TypeId × Value → H} {w : World} {base : Nat} {spare : Nat → Bool} {held : Bool}
end
end Go.Proofs.YtjlbmmiomfpgiaaGreatDoor.Ex
namespace Go.Proofs.YtjlbmmiomfpgiaaGreatDoor.Ex
set_option maxRecDepth 100000
open Go.RowKit Go.Lib
set_option linter.unusedVariables false
def nxI (op arg pl : Int) : Int := if op = 8 then arg else if op = 9 then pl else pl + 1
def lfI (op arg left : Int) : Int := if op = 1 then arg else left
theorem has_yes (w : World) (a : Option Addr) (len cap : Nat) (hlen : len < 9223372036854775808) (O R : Nat → Int) (hp : Prg w a len O R) (pl : Int) (hr : Rt len O R) (h0 : 0 ≤ pl) (h1 : pl < len) :
  Calls Tryz.prog 112 #[.slice a len cap, .int .i64 pl] w fun e w' => e = .returned (.bool true) ∧ Below w.heap.size w w' := by
 obtain ⟨y, hy⟩ := hr
 have HC := veil (check_known w a len cap hlen O R hp 0 y hy)
 clear hy hp
 go_enter Tryz.func112, Tryz.ntmps112
 go_wp2_with (go_at_call 47; refine (HC.out).mono ?_; rintro e w1 ⟨rfl, hb⟩; have HB := veil hb; clear hb)
 go_ret
 exact ⟨rfl, HB.out⟩
theorem has_no (w : World) (a : Option Addr) (len cap : Nat) (hlen : len < 9223372036854775808) (O R : Nat → Int) (hp : Prg w a len O R) (pl : Int) (hn : ¬ (Rt len O R ∧ 0 ≤ pl ∧ pl < len)) :
  Calls Tryz.prog 112 #[.slice a len cap, .int .i64 pl] w fun e w' => e = .returned (.bool false) ∧ Below w.heap.size w w' := by
 obtain ⟨x, y, hxy⟩ := chk_total len O R
 have HC := veil (check_known w a len cap hlen O R hp x y hxy)
 by_cases hx : x = 0
 ·subst hx
  have hn' : ¬ (0 ≤ pl ∧ pl < len) := fun q => hn ⟨⟨y, hxy⟩, q⟩
  clear hn hxy hp
  by_cases h0 : 0 ≤ pl
  ·have h1 : ¬ pl < (len : Int) := fun q => hn' ⟨h0, q⟩
   have h1' : decide (pl < (len : Int)) = false := decide_eq_false h1
   clear hn'
   go_enter Tryz.func112, Tryz.ntmps112
   go_wp2_with (go_at_call 47; refine (HC.out).mono ?_; rintro e w1 ⟨rfl, hb⟩; have HB := veil hb; clear hb)
   go_ret
   exact ⟨rfl, HB.out⟩
  ·have h0' : decide (0 ≤ pl) = false := decide_eq_false h0
   clear hn'
   go_enter Tryz.func112, Tryz.ntmps112
   go_wp2_with (go_at_call 47; refine (HC.out).mono ?_; rintro e w1 ⟨rfl, hb⟩; have HB := veil hb; clear hb)
   go_ret
   exact ⟨rfl, HB.out⟩
 ·have hx' : (x == 0) = false := by simpa using hx
  clear hxy hn hp
  go_enter Tryz.func112, Tryz.ntmps112
  go_wp2_with (go_at_call 47; refine (HC.out).mono ?_; rintro e w1 ⟨rfl, hb⟩; have HB := veil hb; clear hb)
  go_ret
  exact ⟨rfl, HB.out⟩
theorem behind_ok (w : World) (op arg pl left : Int) (h0 : 0 ≤ pl) (h1 : pl < 9223372036854775807) :
  Calls Tryz.prog 113 #[.agg #[.int .i64 op, .int .i64 arg], .agg #[.int .i64 pl, .int .i64 left]] w fun e w' => e = .returned (.agg #[.int .i64 (nxI op arg pl), .int .i64 (lfI op arg left)]) ∧ Below w.heap.size w w' := by
 by_cases h8 : op = 8
 ·subst h8
  go_enter Tryz.func113, Tryz.ntmps113
  go_wp2
  refine bodyPost_ret (v := .agg #[.int .i64 arg, .int .i64 left]) ?_ rfl ⟨?_, ?_⟩
  ·simp [results, Tryz.f113, go_sem]
  ·simp [nxI, lfI]
  ·exact (((Below.refl _ _).alloc (Nat.le_refl _) _).alloc (by simp) _).alloc (by simp; omega) _
 by_cases h9 : op = 9
 ·subst h9
  go_enter Tryz.func113, Tryz.ntmps113
  go_wp2
  refine bodyPost_ret (v := .agg #[.int .i64 pl, .int .i64 left]) ?_ rfl ⟨?_, ?_⟩
  ·simp [results, Tryz.f113, go_sem]
  ·simp [nxI, lfI]
  ·exact (((Below.refl _ _).alloc (Nat.le_refl _) _).alloc (by simp) _).alloc (by simp; omega) _
 by_cases hc : op = 1
 ·subst hc
  go_enter Tryz.func113, Tryz.ntmps113
  go_wp2
  refine bodyPost_ret (v := .agg #[.int .i64 (pl + 1), .int .i64 arg]) ?_ rfl ⟨?_, ?_⟩
  ·simp [results, Tryz.f113, go_sem]
  ·simp [nxI, lfI]
  ·exact (((Below.refl _ _).alloc (Nat.le_refl _) _).alloc (by simp) _).alloc (by simp; omega) _
 ·have b8 : (op == 8) = false := by simpa using h8
  have b9 : (op == 9) = false := by simpa using h9
  have b1 : (op == 1) = false := by simpa using hc
  go_enter Tryz.func113, Tryz.ntmps113
  go_wp2
  refine bodyPost_ret (v := .agg #[.int .i64 (pl + 1), .int .i64 left]) ?_ rfl ⟨?_, ?_⟩
  ·simp [results, Tryz.f113, go_sem]
  ·simp [nxI, lfI, h8, h9, hc]
  ·exact (((Below.refl _ _).alloc (Nat.le_refl _) _).alloc (by simp) _).alloc (by simp; omega) _
theorem three_cells (w w1 : World) (x0 x1 y0 y1 z0 z1 : Value) (t1 t2 t3 : Nat)
  (hb : Below (((w.alloc (.cells #[x0, x1] t1)).alloc (.cells #[y0, y1] t2)).alloc (.cells #[z0, z1] t3)).heap.size (((w.alloc (.cells #[x0, x1] t1)).alloc (.cells #[y0, y1] t2)).alloc (.cells #[z0, z1] t3)) w1) :
  w1.heap[w.heap.size]? = some (.cells #[x0, x1] t1 (0, 0)) ∧ w1.heap[w.heap.size + 1]? = some (.cells #[y0, y1] t2 (0, 0)) ∧ w1.heap[w.heap.size + 1 + 1]? = some (.cells #[z0, z1] t3 (0, 0)) ∧ Below w.heap.size w w1 := by
 refine ⟨?_, ?_, ?_, ?_⟩
 ·rw [hb.block _ (by simp; omega), Below.heap_alloc _ _ _ (by simp; omega), Below.heap_alloc _ _ _ (by simp)]
  exact (MapKept.heap_alloc w _).1
 ·rw [hb.block _ (by simp), Below.heap_alloc _ _ _ (by simp)]
  have := (MapKept.heap_alloc (w.alloc (.cells #[x0, x1] t1)) (.cells #[y0, y1] t2)).1
  rwa [World.size_alloc] at this
 ·rw [hb.block _ (by simp)]
  have := (MapKept.heap_alloc ((w.alloc (.cells #[x0, x1] t1)).alloc (.cells #[y0, y1] t2)) (.cells #[z0, z1] t3)).1
  rwa [World.size_alloc, World.size_alloc] at this
 ·exact (((Below.refl _ _).alloc (Nat.le_refl _) _).alloc (by simp) _).alloc (by simp; omega) _ |>.trans (hb.mono (by simp; omega))
theorem two_cells {w : World} {b : Nat} {x0 x1 : Value} {t : Nat} (h : w.heap[b]? = some (.cells #[x0, x1] t (0, 0))) :
  w.cell? ⟨b, 0, none⟩ = some x0 ∧ w.cell? ⟨b, 1, none⟩ = some x1 ∧ w.frozen? ⟨b, 0, none⟩ = false ∧ w.frozen? ⟨b, 1, none⟩ = false := by
 refine ⟨?_, ?_, ?_, ?_⟩
 ·unfold World.cell?; simp only [h]; rfl
 ·unfold World.cell?; simp only [h]; rfl
 ·unfold World.frozen?; simp only [h]; rfl
 ·unfold World.frozen?; simp only [h]; rfl
theorem step_no (w : World) (a : Option Addr) (len cap : Nat) (hlen : len < 9223372036854775808) (O R : Nat → Int) (hp : Prg w a len O R) (pl left : Int) (hl : ¬ 0 < left) (hn : ¬ (Rt len O R ∧ 0 ≤ pl ∧ pl < len)) :
  Calls Tryz.prog 67 #[.slice a len cap, .agg #[.int .i64 pl, .int .i64 left]] w fun e w' => e = .returned (.tuple #[.agg #[.int .i64 9, .int .i64 0], .agg #[.int .i64 pl, .int .i64 left], .bool false]) ∧ Below w.heap.size w w' := by
 have HH := veil (fun w1 (hb : Below w.heap.size w w1) => has_no w1 a len cap hlen O R (hp.below hb) pl hn)
 clear hp hn
 go_enter Tryz.func67, Tryz.ntmps67
 go_wp2_with (go_at_call 112; refine (HH.out _ ((((Below.refl _ _).alloc (Nat.le_refl _) _).alloc (by simp) _).alloc (by simp; omega) _)).mono ?_; rintro e w1 ⟨rfl, hb⟩; obtain ⟨b1, b2, b3, hb2⟩ := three_cells _ _ _ _ _ _ _ _ _ _ _ hb; obtain ⟨c0, c1, f0, f1⟩ := two_cells b1; obtain ⟨c2, c3, f2, f3⟩ := two_cells b2; obtain ⟨c4, c5, f4, f5⟩ := two_cells b3; have HB := veil hb2; clear hb hb2 HH b1 b2 b3)
 go_region
 go_wp2
 refine bodyPost_ret (v := .tuple #[.agg #[.int .i64 9, .int .i64 0], .agg #[.int .i64 pl, .int .i64 left], .bool false]) ?_ rfl ⟨rfl, ?_⟩
 ·simp [results, Tryz.f67, go_sem, c2, c3, c4, c5]
 ·exact ((((HB.out.setCell (p := ⟨w.heap.size + 1, 0, none⟩) (by simp) _).setCell (p := ⟨w.heap.size + 1, 1, none⟩) (by simp) _).setCell (p := ⟨w.heap.size + 1 + 1, 0, none⟩) (by simp; omega) _).setCell (p := ⟨w.heap.size + 1 + 1, 1, none⟩) (by simp; omega) _).drew
def Six (W : World) (b : Nat) (x0 x1 y0 y1 z0 z1 : Value) : Prop :=
 (W.cell? ⟨b, 0, none⟩ = some x0 ∧ W.cell? ⟨b, 1, none⟩ = some x1 ∧ W.cell? ⟨b + 1, 0, none⟩ = some y0 ∧ W.cell? ⟨b + 1, 1, none⟩ = some y1 ∧ W.cell? ⟨b + 1 + 1, 0, none⟩ = some z0 ∧ W.cell? ⟨b + 1 + 1, 1, none⟩ = some z1) ∧
 W.frozen? ⟨b + 1, 0, none⟩ = false ∧ W.frozen? ⟨b + 1, 1, none⟩ = false ∧ W.frozen? ⟨b + 1 + 1, 0, none⟩ = false ∧ W.frozen? ⟨b + 1 + 1, 1, none⟩ = false
theorem Six.below {W W' : World} {b : Nat} {x0 x1 y0 y1 z0 z1 : Value} (h : Six W b x0 x1 y0 y1 z0 z1) (hb : Below W.heap.size W W') : Six W' b x0 x1 y0 y1 z0 z1 := by
 obtain ⟨⟨h1, h2, h3, h4, h5, h6⟩, g1, g2, g3, g4⟩ := h
 have l : ∀ {p : Addr} {v : Value}, W.cell? p = some v → W'.cell? p = some v := fun {p v} h => (hb.cell (World.block_lt_of_cell? W p h)).trans h
 have g : ∀ {p : Addr} {v : Value}, W.cell? p = some v → W.frozen? p = false → W'.frozen? p = false := fun {p v} h h' => (hb.frozen (World.block_lt_of_cell? W p h)).trans h'
 exact ⟨⟨l h1, l h2, l h3, l h4, l h5, l h6⟩, g h3 g1, g h4 g2, g h5 g3, g h6 g4⟩
theorem Rt.at {len : Nat} {O R : Nat → Int} (h : Rt len O R) : len ≤ 64 := by
 obtain ⟨y, hy⟩ := h
 exact hy.zero.2.1
theorem step_yes (w : World) (a : Option Addr) (len cap : Nat) (O R : Nat → Int) (hp : Prg w a len O R) (j : Nat) (left : Int) (hl : ¬ 0 < left) (hr : Rt len O R) (hj : j < len) :
  Calls Tryz.prog 67 #[.slice a len cap, .agg #[.int .i64 (j : Int), .int .i64 left]] w fun e w' => e = .returned (.tuple #[.agg #[.int .i64 (O j), .int .i64 (R j)], .agg #[.int .i64 (nxI (O j) (R j) j), .int .i64 (lfI (O j) (R j) left)], .bool false]) ∧ Below w.heap.size w w' := by
 have h64 := hr.at
 have HH := veil (fun w1 (hb : Below w.heap.size w w1) => has_yes w1 a len cap (by omega) O R (hp.below hb) j hr (by omega) (by omega))
 have HV := veil (fun w1 => behind_ok w1 (O j) (R j) j left (by omega) (by omega))
 have HP : Hid (∀ w1, Below w.heap.size w w1 → ∃ lb off, a = some ⟨lb, off, none⟩ ∧ lb < w.heap.size ∧ w1.cell? ⟨lb, off + j * 2, none⟩ = some (.int .i64 (O j)) ∧ w1.cell? ⟨lb, off + j * 2 + 1, none⟩ = some (.int .i64 (R j))) := by
  intro w1 hb
  rcases hp with h0 | ⟨lb, off, rfl, hlb, hc⟩
  ·omega
  ·exact ⟨lb, off, rfl, hlb, (hb.cell (p := ⟨lb, off + j * 2, none⟩) hlb).trans (hc j hj).1, (hb.cell (p := ⟨lb, off + j * 2 + 1, none⟩) hlb).trans (hc j hj).2⟩
 have hj' : (j : Int) < (len : Int) := by omega
 clear hp hr
 go_enter Tryz.func67, Tryz.ntmps67
 go_wp2_with (go_at_call 112; refine (HH.out _ ((((Below.refl _ _).alloc (Nat.le_refl _) _).alloc (by simp) _).alloc (by simp; omega) _)).mono ?_; rintro e w1 ⟨rfl, hb⟩; obtain ⟨b1, b2, b3, hb2⟩ := three_cells _ _ _ _ _ _ _ _ _ _ _ hb; obtain ⟨c0, c1, f0, f1⟩ := two_cells b1; obtain ⟨c2, c3, f2, f3⟩ := two_cells b2; obtain ⟨c4, c5, f4, f5⟩ := two_cells b3; obtain ⟨lb, off, rfl, hlb, p0, p1⟩ := HP.out _ hb2; have q0 : ¬ lb = w.heap.size + 1 := (by omega); have HB := veil hb2; clear hb hb2 HH HP b1 b2 b3)
 have H6 : Six ((w1.setCell ⟨w.heap.size + 1, 0, none⟩ (.int .i64 (O j))).setCell ⟨w.heap.size + 1, 1, none⟩ (.int .i64 (R j))) w.heap.size (.int .i64 (j : Int)) (.int .i64 left) (.int .i64 (O j)) (.int .i64 (R j)) (.int .i64 0) (.int .i64 0) := by
  refine ⟨⟨?_, ?_, ?_, ?_, ?_, ?_⟩, ?_, ?_, ?_, ?_⟩ <;> simp [go_sem, c0, c1, c2, c3, c4, c5, f2, f3, f4, f5]
 have HB1 : Hid (Below w.heap.size w ((w1.setCell ⟨w.heap.size + 1, 0, none⟩ (.int .i64 (O j))).setCell ⟨w.heap.size + 1, 1, none⟩ (.int .i64 (R j)))) := (HB.out.setCell (p := ⟨w.heap.size + 1, 0, none⟩) (by simp) _).setCell (p := ⟨w.heap.size + 1, 1, none⟩) (by simp) _
 clear c0 c1 c2 c3 c4 c5 f0 f1 f2 f3 f4 f5 p0 p1 HB
 generalize (w1.setCell ⟨w.heap.size + 1, 0, none⟩ (.int .i64 (O j))).setCell ⟨w.heap.size + 1, 1, none⟩ (.int .i64 (R j)) = W at H6 HB1 ⊢
 have H7 := veil H6
 obtain ⟨⟨c0, c1, c2, c3, c4, c5⟩, f2, f3, f4, f5⟩ := H6
 go_region_held3 (fun w' => w'.cell? ⟨w.heap.size, 0, none⟩ = some (.int .i64 (j : Int)) ∧ w'.cell? ⟨w.heap.size, 1, none⟩ = some (.int .i64 left) ∧ w'.cell? ⟨w.heap.size + 1, 0, none⟩ = some (.int .i64 (O j)) ∧ w'.cell? ⟨w.heap.size + 1, 1, none⟩ = some (.int .i64 (R j)))
  (first | with_reducible exact ⟨c0, c1, c2, c3⟩ | with_reducible exact ⟨d0, d1, d2, d3⟩ | (refine ⟨?_, ?_, ?_, ?_⟩ <;> simp [go_sem, d0, d1, d2, d3]; done) | go_keep)
  (first | (go_at_call 113; refine (HV.out _).mono ?_; rintro e w2 ⟨rfl, hb0⟩; have hb : Below W.heap.size W w2 := ((Below.refl _ W).drew).trans hb0; clear hb0; obtain ⟨⟨d0, d1, d2, d3, d4, d5⟩, g2, g3, g4, g5⟩ := H7.out.below hb; have HB2 := veil (HB1.out.trans (hb.mono HB1.out.size)); clear hb))
 go_wp2
 refine bodyPost_ret (v := .tuple #[.agg #[.int .i64 (O j), .int .i64 (R j)], .agg #[.int .i64 (nxI (O j) (R j) j), .int .i64 (lfI (O j) (R j) left)], .bool false]) ?_ rfl ⟨rfl, ?_⟩
 ·simp [results, Tryz.f67, go_sem, d2, d3, d4, d5]
 ·exact ((((HB2.out.setCell (p := ⟨w.heap.size + 1, 0, none⟩) (by simp) _).setCell (p := ⟨w.heap.size + 1, 1, none⟩) (by simp) _).setCell (p := ⟨w.heap.size + 1 + 1, 0, none⟩) (by simp; omega) _).setCell (p := ⟨w.heap.size + 1 + 1, 1, none⟩) (by simp; omega) _)
end Go.Proofs.YtjlbmmiomfpgiaaGreatDoor.Ex
namespace Go.Proofs.YtjlbmmiomfpgiaaGreatDoor.Ex
set_option maxRecDepth 100000
open Go.RowKit Go.Lib
set_option linter.unusedVariables false
def inP (r : Bool) (len : Nat) (p : Int) : Bool := r && decide (0 ≤ p ∧ p < (len : Int))
def stO (r : Bool) (len : Nat) (O : Nat → Int) (p : Int) : Int := if inP r len p then O p.toNat else 9
def stR (r : Bool) (len : Nat) (R : Nat → Int) (p : Int) : Int := if inP r len p then R p.toNat else 0
def stN (r : Bool) (len : Nat) (O R : Nat → Int) (p : Int) : Int := if inP r len p then nxI (O p.toNat) (R p.toNat) p else p
def stL (r : Bool) (len : Nat) (O R : Nat → Int) (p left : Int) : Int := if inP r len p then lfI (O p.toNat) (R p.toNat) left else left
theorem inP_iff {r : Bool} {len : Nat} {O R : Nat → Int} (hr : r = true ↔ Rt len O R) (p : Int) : inP r len p = true ↔ (Rt len O R ∧ 0 ≤ p ∧ p < len) := by
 simp [inP, hr]
theorem step_any (w : World) (a : Option Addr) (len cap : Nat) (hlen : len < 9223372036854775808) (O R : Nat → Int) (hp : Prg w a len O R) (r : Bool) (hr : r = true ↔ Rt len O R) (p left : Int) (hl : ¬ 0 < left) :
  Calls Tryz.prog 67 #[.slice a len cap, .agg #[.int .i64 p, .int .i64 left]] w fun e w' => e = .returned (.tuple #[.agg #[.int .i64 (stO r len O p), .int .i64 (stR r len R p)], .agg #[.int .i64 (stN r len O R p), .int .i64 (stL r len O R p left)], .bool false]) ∧ Below w.heap.size w w' := by
 by_cases h : inP r len p = true
 ·obtain ⟨h1, h2, h3⟩ := (inP_iff hr p).1 h
  simp only [stO, stR, stN, stL, h, if_true]
  obtain ⟨j, rfl⟩ : ∃ j : Nat, p = j := ⟨p.toNat, by omega⟩
  exact step_yes w a len cap O R hp j left hl h1 (by omega)
 ·have h' : inP r len p = false := by simpa using h
  simp only [stO, stR, stN, stL, h', Bool.false_eq_true, if_false]
  exact step_no w a len cap hlen O R hp p left hl (fun q => h ((inP_iff hr p).2 q))
def plc (r : Bool) (len : Nat) (O R : Nat → Int) : Nat → Int
 | 0 => 0
 | k + 1 => stN r len O R (plc r len O R k)
def ro (r : Bool) (len : Nat) (O R : Nat → Int) (k : Nat) : Int := stO r len O (plc r len O R k)
def ra (r : Bool) (len : Nat) (O R : Nat → Int) (k : Nat) : Int := stR r len R (plc r len O R k)
def spd (f : Nat → Int) : Nat → Bool
 | 0 => false
 | k + 1 => spd f k || (f k == 9)
def rlen (f : Nat → Int) : Nat → Nat
 | 0 => 0
 | k + 1 => if spd f k then rlen f k else k + 1
theorem rlen_go {f : Nat → Int} : ∀ {n : Nat}, spd f n = false → rlen f n = n
 | 0, _ => rfl
 | n + 1, h => by
  simp [spd] at h
  simp [rlen, h.1]
theorem spd_up {f : Nat → Int} {k : Nat} (h : spd f k = true) : ∀ d, spd f (k + d) = true
 | 0 => h
 | d + 1 => by show (spd f (k + d) || _) = true; simp [spd_up h d]
theorem rlen_stop {f : Nat → Int} {k : Nat} (h : spd f k = false) (h9 : f k = 9) : ∀ d, rlen f (k + 1 + d) = k + 1
 | 0 => by simp [rlen, h]
 | d + 1 => by
  have : spd f (k + 1 + d) = true := spd_up (by simp [spd, h9]) d
  show (if spd f (k + 1 + d) then rlen f (k + 1 + d) else _) = _
  rw [this, if_pos rfl]
  exact rlen_stop h h9 d
theorem row_lowE {w : World} {base base' : Nat} {e : TypeId} {size : Nat} {v : Value} {n : Nat} {xs : List Value} (h : w.ownsRow base e size v n xs) (hb : base' ≤ base) : w.ownsRow base' e size v n xs := by
 refine ⟨h.1, ?_⟩
 rcases h.2 with h1 | ⟨g, cap, cur, h1, h2, h3⟩
 ·exact .inl h1
 ·exact .inr ⟨g, cap, cur, h1, Nat.le_trans hb h2, h3⟩
end Go.Proofs.YtjlbmmiomfpgiaaGreatDoor.Ex
namespace Go.Proofs.YtjlbmmiomfpgiaaGreatDoor.Ex
set_option maxRecDepth 100000
open Go.RowKit Go.Lib
set_option linter.unusedVariables false
def Two (W : World) (b : Nat) (x y : Value) : Prop := W.cell? ⟨b, 0, none⟩ = some x ∧ W.cell? ⟨b, 1, none⟩ = some y ∧ W.frozen? ⟨b, 0, none⟩ = false ∧ W.frozen? ⟨b, 1, none⟩ = false
theorem Two.same {W W' : World} {b : Nat} {x y : Value} (h : Two W b x y) (hb : W'.heap[b]? = W.heap[b]?) : Two W' b x y :=
 ⟨(World.cell?_of_block (a := ⟨b, 0, none⟩) hb).trans h.1, (World.cell?_of_block (a := ⟨b, 1, none⟩) hb).trans h.2.1, (World.frozen?_of_block (a := ⟨b, 0, none⟩) hb).trans h.2.2.1, (World.frozen?_of_block (a := ⟨b, 1, none⟩) hb).trans h.2.2.2⟩
theorem Two.lt {W : World} {b : Nat} {x y : Value} (h : Two W b x y) : b < W.heap.size := World.block_lt_of_cell? W _ h.1
theorem Two.set {W : World} {b : Nat} {x y : Value} (h : Two W b x y) (x' y' : Value) : Two ((W.setCell ⟨b, 0, none⟩ x').setCell ⟨b, 1, none⟩ y') b x' y' := by
 obtain ⟨h1, h2, h3, h4⟩ := h
 refine ⟨?_, ?_, ?_, ?_⟩ <;> simp [go_sem, h1, h2, h3, h4]
theorem Two.new (W : World) (x y : Value) (t : TypeId) : Two (W.alloc (.cells #[x, y] t)) W.heap.size x y := two_cells (MapKept.heap_alloc W _).1
theorem row_belowE {w w' : World} {base : Nat} {e : TypeId} {size : Nat} {v : Value} {n : Nat} {xs : List Value} (h : w.ownsRow base e size v n xs) (hb : Below w.heap.size w w') : w'.ownsRow base e size v n xs := by
 refine ⟨h.1, ?_⟩
 rcases h.2 with h1 | ⟨g, cap, cur, h1, h2, h3, h4⟩
 ·exact .inl h1
 ·exact .inr ⟨g, cap, cur, h1, h2, (hb.block g (Array.getElem?_eq_some_iff.1 h3).1).trans h3, h4⟩
theorem cell_two_at (w : World) (x y : Value) (t : TypeId) (b : Nat) (hb : w.heap.size = b) : ∀ j u, [x, y][j]? = some u → (w.alloc (.cells #[x, y] t)).cell? ((⟨b, 0, none⟩ : Addr).add j) = some u := by
 intro j u hu
 subst hb
 have hadd : (⟨w.heap.size, 0, none⟩ : Addr).add j = ⟨w.heap.size, j, none⟩ := by unfold Addr.add; split <;> simp_all
 rw [hadd]
 unfold World.cell?
 simp only [(MapKept.heap_alloc w _).1]
 simpa using hu
theorem kept3 {w wr w2 w3 : World} {l : Value} {n : Nat} {xs : List Value} {e : TypeId} {x0 x1 y0 y1 z0 z1 : Value} {T1 T2 : TypeId} {Z : Obj}
  (ho : wr.ownsRow (w.heap.size + 1) e 2 l n xs) (hf : Two wr w.heap.size x0 x1) (hb : Below wr.heap.size wr w2)
  (hg : (((w2.alloc (.cells #[y0, y1] T1)).alloc (.cells #[z0, z1] T2)).alloc Z).grownBy w3 l.ownBlock) :
  Two w3 w.heap.size x0 x1 ∧ Two w3 w2.heap.size y0 y1 ∧ Two w3 (w2.heap.size + 1) z0 z1 := by
 have hlt := hf.lt
 have hs := hb.size
 have hr := ho.lt
 have k : ∀ b, b < w2.heap.size + 2 → (b = w.heap.size ∨ w2.heap.size ≤ b) → w3.heap[b]? = ((w2.alloc (.cells #[y0, y1] T1)).alloc (.cells #[z0, z1] T2)).heap[b]? := by
  intro b h1 h2
  rw [hg.block b (by simp; omega) (fun q => by have := hr b q.symm; omega), Below.heap_alloc _ _ _ (by simp; omega)]
 refine ⟨?_, ?_, ?_⟩
 ·refine (hf.same (hb.block _ hlt)).same ?_
  rw [k _ (by omega) (.inl rfl), Below.heap_alloc _ _ _ (by simp; omega), Below.heap_alloc _ _ _ (by omega)]
 ·refine (Two.new w2 y0 y1 T1).same ?_
  rw [k _ (by omega) (.inr (by omega)), Below.heap_alloc _ _ _ (by simp)]
 ·have := Two.new (w2.alloc (.cells #[y0, y1] T1)) z0 z1 T2
  rw [World.size_alloc] at this
  exact this.same (k _ (by omega) (.inr (by omega)))
set_option maxHeartbeats 4000000 in
theorem run_ok (w : World) (a : Option Addr) (len cap : Nat) (hlen : len < 9223372036854775808) (O R : Nat → Int) (hp : Prg w a len O R) (r : Bool) (hr : r = true ↔ Rt len O R) (m : Nat) (hm : m ≤ 10000) :
  Calls Tryz.prog 29 #[.slice a len cap, .int .i64 (m : Int)] w fun e w' => ∃ v, e = .returned v ∧ w'.ownsRow w.heap.size 64 2 v (rlen (ro r len O R) m) (pcells (ro r len O R) (ra r len O R) (rlen (ro r len O R) m)) ∧ Below w.heap.size w w' := by
 have HS := veil (fun w1 (hb : Below w.heap.size w w1) p => step_any w1 a len cap hlen O R (hp.below hb) r hr p 0 (by decide))
 clear hp hr hlen
 have hm' : (m : Int) ≤ 10000 := by omega
 obtain ⟨i0, hi, hz0, hz1, hz2⟩ := info_parts info_instr
 go_enter Tryz.func29, Tryz.ntmps29
 go_wp2
 go_loopw [5, 12] (fun l i wr => ∃ k : Nat, k ≤ m ∧ i = .int .i64 (k : Int) ∧ spd (ro r len O R) k = false ∧ wr.ownsRow (w.heap.size + 1) 64 2 l k (pcells (ro r len O R) (ra r len O R) k) ∧ Two wr w.heap.size (.int .i64 (plc r len O R k)) (.int .i64 0) ∧ Below w.heap.size w wr) (fun _ i _ => m - (intOf i).toNat)
 case atStart => exact ⟨0, by omega, rfl, rfl, World.ownsRow_nil _ _ _ _, Two.new _ _ _ _, (Below.refl _ _).alloc (Nat.le_refl _) _⟩
 case round =>
  obtain ⟨k, hk, rfl, hsp, ho, ht, hb⟩ := hrel
  have HSP := veil hsp
  have HO := veil ho
  have HT := veil ht
  have HB := veil hb
  obtain ⟨c0, c1, f0, f1⟩ := ht
  have hfs := HT.out.lt
  clear hsp ho hb
  by_cases hkm : k < m
  ·have hkm' : (k : Int) < (m : Int) := by omega
   have hkt : (k : Int) < 10000 := by omega
   obtain ⟨p, hpe⟩ : ∃ p, p = plc r len O R k := ⟨_, rfl⟩
   obtain ⟨o, hoe⟩ : ∃ o, o = stO r len O p := ⟨_, rfl⟩
   obtain ⟨q, hqe⟩ : ∃ q, q = stR r len R p := ⟨_, rfl⟩
   obtain ⟨nx, hne⟩ : ∃ nx, nx = stN r len O R p := ⟨_, rfl⟩
   obtain ⟨lf, hle⟩ : ∃ lf, lf = stL r len O R p 0 := ⟨_, rfl⟩
   have HS2 := veil (HS.out wr HB.out p)
   rw [← hpe] at c0
   have HT2 : Hid (Two wr w.heap.size (.int .i64 p) (.int .i64 0)) := by rw [hpe]; exact HT.out
   have HPC : Hid (pcells (ro r len O R) (ra r len O R) (k + 1) = pcells (ro r len O R) (ra r len O R) k ++ [.int .i64 o, .int .i64 q]) := by
    unfold Hid
    simp only [pcells]
    rw [show ro r len O R k = o from by unfold ro; rw [hoe, hpe], show ra r len O R k = q from by unfold ra; rw [hqe, hpe]]
   have HRO : Hid (ro r len O R k = o) := by unfold Hid ro; rw [hoe, hpe]
   have HNX : Hid (plc r len O R (k + 1) = nx) := by unfold Hid; rw [hne, hpe]; rfl
   rw [← hoe, ← hqe, ← hne, ← hle] at HS2
   clear hpe hoe hqe hne hle HT
   cases ho9 : (o == 9) with
   | true =>
    go_wp2_with (first
     | (go_at_call 67; refine (HS2.out).mono ?_; rintro e w2 ⟨rfl, hb2⟩; have HB2 := veil hb2; have HO2 := veil (row_belowE HO.out hb2); have hs2 := hb2.size; clear hb2)
     | (at_builtin; refine wpList_append_own _ rfl _ _ 35 rfl (w.heap.size + 1) 64 i0 (.agg #[.int .i64 0, .int .i64 0]) 2 16 Tryz.underlying35 hi hz0 hz1 hz2 rfl (by omega) _ _ _ rfl (((HO2.out.alloc _).alloc _).alloc _) ⟨w2.heap.size + 1 + 1, 0, none⟩ 1 1 [.int .i64 o, .int .i64 q] rfl rfl (cell_two_at _ _ _ _ _ (by simp)) (by simp [Value.oneCell']) (by unfold maxLen; omega) (by omega) (by simp; omega) ?_; intro v' w3 ho3 hg3 _; have hk3 := kept3 HO.out HT2.out HB2.out hg3; have HK3 := veil hk3; obtain ⟨t1, t2, t3⟩ := hk3; obtain ⟨g0, g1, z0, z1⟩ := t1; obtain ⟨g2, g3, z2, z3⟩ := t2; obtain ⟨g4, g5, z4, z5⟩ := t3; have HO3 := veil ho3; have HB3 := veil (((((HB.out.trans (HB2.out.mono HB.out.size)).alloc (by have := HB.out.size; omega) _).alloc (by have := HB.out.size; simp; omega) _).alloc (by have := HB.out.size; simp; omega) _).grown hg3 (by have := HB.out.size; simp; omega) (fun k hk => by have := (HO.out.lt k hk).1; omega)); clear ho3 hg3))
    go_ret
    have hl : rlen (ro r len O R) m = k + 1 := by
     have := rlen_stop HSP.out (HRO.out.trans (by simpa using ho9)) (m - (k + 1))
     rwa [show k + 1 + (m - (k + 1)) = m by omega] at this
    refine ⟨_, rfl, ?_, HB3.out⟩
    rw [hl, HPC.out]
    exact row_lowE HO3.out (by omega)
   | false =>
    go_wp2_with (first
     | (go_at_call 67; refine (HS2.out).mono ?_; rintro e w2 ⟨rfl, hb2⟩; have HB2 := veil hb2; have HO2 := veil (row_belowE HO.out hb2); have hs2 := hb2.size; clear hb2)
     | (at_builtin; refine wpList_append_own _ rfl _ _ 35 rfl (w.heap.size + 1) 64 i0 (.agg #[.int .i64 0, .int .i64 0]) 2 16 Tryz.underlying35 hi hz0 hz1 hz2 rfl (by omega) _ _ _ rfl (((HO2.out.alloc _).alloc _).alloc _) ⟨w2.heap.size + 1 + 1, 0, none⟩ 1 1 [.int .i64 o, .int .i64 q] rfl rfl (cell_two_at _ _ _ _ _ (by simp)) (by simp [Value.oneCell']) (by unfold maxLen; omega) (by omega) (by simp; omega) ?_; intro v' w3 ho3 hg3 _; have hk3 := kept3 HO.out HT2.out HB2.out hg3; have HK3 := veil hk3; obtain ⟨t1, t2, t3⟩ := hk3; obtain ⟨g0, g1, z0, z1⟩ := t1; obtain ⟨g2, g3, z2, z3⟩ := t2; obtain ⟨g4, g5, z4, z5⟩ := t3; have HO3 := veil ho3; have HB3 := veil (((((HB.out.trans (HB2.out.mono HB.out.size)).alloc (by have := HB.out.size; omega) _).alloc (by have := HB.out.size; simp; omega) _).alloc (by have := HB.out.size; simp; omega) _).grown hg3 (by have := HB.out.size; simp; omega) (fun k hk => by have := (HO.out.lt k hk).1; omega)); clear ho3 hg3))
    go_roundw
    case rel =>
     refine ⟨k + 1, by omega, by go_num, ?_, ?_, ?_, ?_⟩
     ·simp only [spd, HSP.out, HRO.out, ho9, Bool.or_self]
     ·rw [HPC.out]
      exact ownsRow_setCell_below (ownsRow_setCell_below HO3.out (by simp) _) (by simp) _
     ·rw [HNX.out]
      exact HK3.out.1.set _ _
     ·exact (HB3.out.setCell (p := ⟨w.heap.size, 0, none⟩) (Nat.le_refl _) _).setCell (p := ⟨w.heap.size, 1, none⟩) (Nat.le_refl _) _
    case measure => simp [intOf]; omega
  ·have hkm' : ¬ (k : Int) < (m : Int) := by omega
   obtain rfl : k = m := by omega
   go_wp2
   go_ret
   refine ⟨_, rfl, ?_, HB.out⟩
   rw [rlen_go HSP.out]
   exact row_lowE HO.out (by omega)
end Go.Proofs.YtjlbmmiomfpgiaaGreatDoor.Ex
namespace Go.Proofs.YtjlbmmiomfpgiaaGreatDoor.Ex
set_option maxRecDepth 100000
open Go.RowKit Go.Lib Go.Deep Go.ChangeShapes Go.WideShapes Go.ChangeAt
set_option linter.unusedVariables false
@[go_sem] theorem field_at (x y : Value) (w : World) : (Instr.field 109 (.agg #[x, y]) 0).run Tryz.prog w = .ok x w := by kernel_rfl
@[go_sem] theorem field_left (x y : Value) (w : World) : (Instr.field 109 (.agg #[x, y]) 1).run Tryz.prog w = .ok y w := by kernel_rfl
end Go.Proofs.YtjlbmmiomfpgiaaGreatDoor.Ex
