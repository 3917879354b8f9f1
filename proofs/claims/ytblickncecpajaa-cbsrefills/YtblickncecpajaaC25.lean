/-
  Both sides at once: the program's servers and the document's; each of the document's calls said by C7's functions.
-/
import Derived.Test.YtblickncecpajaaC24
import Derived.Deep.DrawnRows
namespace Go.Proofs.Ytblickncecpajaa
open Go.RowKit Go.Lib
attribute [local go_sem ↓] Go.wp_at_zero Go.wp_at_succ
theorem below_drewN {B : Nat} {w w1 : World} (h : Below B w w1) (q : Nat) : Below B w (w1.drewN q) := ⟨h.os, h.tape, h.output, h.size, h.block⟩
/-- A slice of ids that lies in a block from base on. -/
def IL (w : World) (base : Nat) (v : Value) (xs : List Int) : Prop := w.ownsRow base 3 1 v xs.length (xs.map (Value.int .i64))
theorem IL.slice {w : World} {base : Nat} {v : Value} {xs : List Int} (h : IL w base v xs) : ∃ a cap, v = .slice a xs.length cap := owns_slice h
theorem IL.cells {w : World} {base : Nat} {v : Value} {xs : List Int} (h : IL w base v xs) (hx : xs ≠ []) : ∃ g cap, v = .slice (some ⟨g, 0, none⟩) xs.length cap ∧ base ≤ g ∧ g < w.heap.size ∧ ∀ j, j < xs.length → w.cell? ⟨g, j, none⟩ = some (.int .i64 (xs.getD j 0)) := by
  have hpos : 0 < xs.length := List.length_pos_iff.2 hx
  obtain ⟨g, cap, rfl, h1, h2⟩ := World.ownsRow.form h hpos
  refine ⟨g, cap, rfl, h1, h2, fun j hj => ?_⟩
  rw [World.ownsRow.cellAt h j (by omega)]
  simp [List.getD, hj]
theorem owns_fr {w w' : World} {S : Nat → Prop} {base : Nat} {e : TypeId} {size : Nat} {v : Value} {n : Nat} {xs : List Value} (h : w.ownsRow base e size v n xs) (hf : Fr S w w') (h2 : ∀ k, base ≤ k → k < w.heap.size → ¬ S k) : w'.ownsRow base e size v n xs := by
  refine ⟨h.1, ?_⟩
  rcases h.2 with hn | ⟨g, cap, cur, rfl, hb, hgg, rest⟩
  · exact .inl hn
  · refine .inr ⟨g, cap, cur, rfl, hb, ?_, rest⟩
    rw [hf.block g (Array.getElem?_eq_some_iff.1 hgg).1 (h2 g hb (Array.getElem?_eq_some_iff.1 hgg).1)]
    exact hgg
theorem IL.below {w w' : World} {base : Nat} {v : Value} {xs : List Int} (h : IL w base v xs) (hb : Below w.heap.size w w') : IL w' base v xs := owns_fr h (Fr.of_below' (S := fun _ => False) hb) (fun _ _ _ q => q)
theorem IL.apart {w w' : World} {base b g : Nat} {v : Value} {xs : List Int} (h : IL w base v xs) (hf : Fr (fun k => k = b ∨ k = g) w w') (h1 : b < base) (h2 : g < base) : IL w' base v xs := owns_fr h hf (fun k hk _ q => by omega)

set_option maxHeartbeats 1000000 in
theorem same_walk (w : World) (ga gb len ca cb : Nat) (xs : Nat → Int) (hl : len ≤ 1024)
    (hca : ∀ j, j < len → w.cell? ⟨ga, j, none⟩ = some (.int .i64 (xs j))) (hcb : ∀ j, j < len → w.cell? ⟨gb, j, none⟩ = some (.int .i64 (xs j))) :
    Calls Try.prog 46 #[.slice (some ⟨ga, 0, none⟩) len ca, .slice (some ⟨gb, 0, none⟩) len cb] w fun e w' => e = .returned (.bool true) ∧ ∃ q, w' = w.drewN q := by
  have HA := veil hca
  have HB := veil hcb
  clear hca hcb
  go_enter Try.func46, Try.ntmps46
  go_wp2
  go_loopw [5] (fun i wr => ∃ j q : Nat, j ≤ len ∧ i = .int .i64 j ∧ wr = w.drewN q) (fun i _ => len - (intOf i).toNat)
  case atStart => exact ⟨0, 0, by omega, rfl, rfl⟩
  case round =>
    obtain ⟨j, q, hj, rfl, rfl⟩ := hrel
    by_cases hjl : j < len
    · have e1 := HA.out j hjl
      have e2 := HB.out j hjl
      go_wp2
      go_quiet (fail)
      go_wp2
      go_roundw
      case rel => exact ⟨j + 1, _, by omega, by go_num, rfl⟩
      case measure => simp [intOf]; omega
    · go_wp2
      go_ret
      exact ⟨rfl, _, rfl⟩
theorem same_empty (w : World) (a b : Option Addr) (ca cb : Nat) :
    Calls Try.prog 46 #[.slice a 0 ca, .slice b 0 cb] w fun e w' => e = .returned (.bool true) ∧ ∃ q, w' = w.drewN q := by
  go_enter Try.func46, Try.ntmps46
  go_wp2
  go_loopw [5] (fun i wr => i = .int .i64 0 ∧ wr = w) (fun i _ => 0)
  case atStart => exact ⟨rfl, rfl⟩
  case round =>
    obtain ⟨rfl, rfl⟩ := hrel
    go_wp2
    go_ret
    exact ⟨rfl, 0, rfl⟩
theorem same_yes (w : World) (b1 b2 : Nat) (v1 v2 : Value) (xs : List Int) (hl : xs.length ≤ 1024) (h1 : IL w b1 v1 xs) (h2 : IL w b2 v2 xs) :
    Calls Try.prog 46 #[v1, v2] w fun e w' => e = .returned (.bool true) ∧ ∃ q, w' = w.drewN q := by
  by_cases hx : xs = []
  · subst hx
    obtain ⟨a, ca, rfl⟩ := h1.slice
    obtain ⟨b, cb, rfl⟩ := h2.slice
    exact same_empty w a b ca cb
  · obtain ⟨ga, ca, rfl, _, _, c1⟩ := h1.cells hx
    obtain ⟨gb, cb, rfl, _, _, c2⟩ := h2.cells hx
    exact same_walk w ga gb xs.length ca cb (fun j => xs.getD j 0) hl c1 c2

section
variable {w : World} {base s P : Nat} {v : Value} {L : List Srv}
theorem radmit_all (h : Rep w base s P v L) (b p : Nat) : Calls Try.prog 43 #[.pointer (some ⟨s, 0, none⟩), .int .u64 (b : Int), .int .u64 (p : Int)] w fun e w' => e = .returned (.tuple #[.int .i64 (admN P L b p : Int), .int .i64 (admC P L b p : Int)]) ∧ (∃ v', Rep w' base s P v' (admL P L b p)) ∧ Fr (fun k => k = s ∨ some k = v.ownBlock) w w' := by
  unfold admL admN admC
  cases hr : rightB b p
  · refine (radmit_range h b p hr).mono ?_
    rintro e w' ⟨rfl, hb⟩
    exact ⟨by simp, ⟨v, by simpa using h.below hb⟩, Fr.of_below' hb⟩
  have hl := h.f.len
  by_cases h1 : L.length = 32
  · refine (radmit_full h b p hr h1).mono ?_
    rintro e w' ⟨rfl, hb⟩
    exact ⟨by simp [h1], ⟨v, by simpa [h1] using h.below hb⟩, Fr.of_below' hb⟩
  by_cases h2 : P * 232792560 < sumOf L + asks ⟨b, p, 0, 0⟩
  · refine (radmit_load h b p hr (by omega) h2).mono ?_
    rintro e w' ⟨rfl, hb⟩
    exact ⟨by simp [h1, h2], ⟨v, by simpa [h1, h2] using h.below hb⟩, Fr.of_below' hb⟩
  · refine (radmit_ok h b p hr (by omega) h2).mono ?_
    rintro e w' ⟨rfl, ⟨v', hv⟩, hf⟩
    exact ⟨by simp [h1, h2], ⟨v', by simpa [h1, h2] using hv⟩, hf⟩
theorem rwake_all (h : Rep w base s P v L) (i : Int) (now : Nat) (hn : now < 18446744073709551616) : Calls Try.prog 44 #[.pointer (some ⟨s, 0, none⟩), .int .i64 i, .int .u64 (now : Int)] w fun e w' => e = .returned (.int .i64 (wakC L i : Int)) ∧ (∃ v', Rep w' base s P v' (wakL L i now)) ∧ Fr (fun k => k = s ∨ some k = v.ownBlock) w w' := by
  unfold wakC wakL
  rcases inL_cases L i with ⟨h0, h1⟩ | ⟨k, x, rfl, hx⟩
  · refine (rwake_range h i now h0).mono ?_
    rintro e w' ⟨rfl, rfl⟩
    exact ⟨by simp [h0], ⟨v, by simpa [h0] using h⟩, Fr.refl _ _⟩
  · obtain ⟨e1, e2⟩ := atL_some hx
    rw [e1, e2]
    refine (rwake_some h k now x hx hn).mono ?_
    rintro e w' ⟨rfl, hp, hf⟩
    exact ⟨by simp, ⟨v, by simpa using hp⟩, hf.wide (fun _ _ q => .inr q)⟩
theorem rcharge_all (h : Rep w base s P v L) (i : Int) : Calls Try.prog 45 #[.pointer (some ⟨s, 0, none⟩), .int .i64 i] w fun e w' => e = .returned (.tuple #[.bool (chgB L i), .int .i64 (chgC L i : Int)]) ∧ (∃ v', Rep w' base s P v' (chgL L i)) ∧ Fr (fun k => k = s ∨ some k = v.ownBlock) w w' := by
  unfold chgC chgB chgL
  rcases inL_cases L i with ⟨h0, h1⟩ | ⟨k, x, rfl, hx⟩
  · refine (rcharge_range h i h0).mono ?_
    rintro e w' ⟨rfl, rfl⟩
    exact ⟨by simp [h0], ⟨v, by simpa [h0] using h⟩, Fr.refl _ _⟩
  · obtain ⟨e1, e2⟩ := atL_some hx
    rw [e1, e2]
    by_cases hd : x.l = 0
    · refine (rcharge_none h k x hx hd).mono ?_
      rintro e w' ⟨rfl, rfl⟩
      exact ⟨by simp [hd], ⟨v, by simpa [hd] using h⟩, Fr.refl _ _⟩
    · refine (rcharge_ok h k x hx (by omega)).mono ?_
      rintro e w' ⟨rfl, hp, hf⟩
      have g : 1 ≤ x.l := by omega
      refine ⟨?_, ⟨v, by simpa [g] using hp⟩, hf.wide (fun _ _ q => .inr q)⟩
      have q : (x.l - 1 == 0) = decide (x.l = 1) := by rw [Bool.eq_iff_iff]; simp; omega
      simp [hd, q]
theorem Rep.low (h : Rep w base s P v L) (hs : base ≤ s) {w' : World} (hf : Fr (fun k => k = s ∨ some k = v.ownBlock) w w') : Below base w w' :=
  hf.below h.bs (fun k q => by rcases q with rfl | q; exact hs; exact (ownsRow_blk h.own q.symm).1)
end
/-- The program's servers and the document's, the same ones. -/
structure Both (w : World) (base s r P : Nat) (v u : Value) (L : List Srv) : Prop where
  p : Pep w base s P v L
  d : Rep w base r P u L
  hs : base ≤ s
  hr : base ≤ r
section
variable {w w' : World} {base s r P : Nat} {v u : Value} {L L' : List Srv}
theorem tid_ne {k : Nat} {c c' : Array Value} {t t' : TypeId} {f f' : Nat × Nat} (h : t ≠ t') (h1 : w.heap[k]? = some (.cells c t f)) (h2 : w.heap[k]? = some (.cells c' t' f')) : False := by
  rw [h1] at h2
  injection h2 with h2
  injection h2 with _ h3 _
  exact h h3
theorem Both.sr (h : Both w base s r P v u L) : ¬ r = s := fun q => by
  have h1 := h.d.blk
  rw [q] at h1
  exact tid_ne (by decide) h.p.blk h1
theorem Both.su (h : Both w base s r P v u L) : ¬ some s = u.ownBlock := fun q => by
  obtain ⟨_, _, cur, e⟩ := ownsRow_blk h.d.own q.symm
  exact tid_ne (by decide) h.p.blk e
theorem Both.rv (h : Both w base s r P v u L) : ¬ some r = v.ownBlock := fun q => by
  obtain ⟨_, _, cur, e⟩ := ownsRow_blk h.p.own q.symm
  exact tid_ne (by decide) h.d.blk e
theorem Both.uv (h : Both w base s r P v u L) (k : Nat) (hv : v.ownBlock = some k) : ¬ u.ownBlock = some k := fun q => by
  obtain ⟨_, _, cur, e⟩ := ownsRow_blk h.p.own hv
  obtain ⟨_, _, cur', e'⟩ := ownsRow_blk h.d.own q
  exact tid_ne (by decide) e e'
/-- The program's servers changed: the document's are as they were. -/
theorem Both.prog (h : Both w base s r P v u L) (hf : Fr (fun k => k = s ∨ some k = v.ownBlock) w w') : Rep w' base r P u L ∧ Below base w w' :=
  ⟨h.d.frame hf (fun q => by rcases q with q | q; exact h.sr q; exact h.rv q) (fun k hk q => by rcases q with q | q; exact h.su (by rw [hk, q]); exact h.uv k q.symm hk), h.p.low h.hs hf⟩
end
/-- What a deed leaves: both are the same again. -/
def Done (w : World) (base s r P : Nat) (w' : World) : Prop := (∃ v u L, Both w' base s r P v u L) ∧ Below base w w'
theorem Done.of {w w1 w' : World} {base s r P : Nat} {v u : Value} {L L' : List Srv} (h : Both w base s r P v u L) (h1 : ∃ v', Pep w1 base s P v' L') (f1 : Fr (fun k => k = s ∨ some k = v.ownBlock) w w1) (h2 : ∃ u', Rep w' base r P u' L') (f2 : Fr (fun k => k = r ∨ some k = u.ownBlock) w1 w') : Done w base s r P w' := by
  obtain ⟨v', hv⟩ := h1
  obtain ⟨u', hu⟩ := h2
  obtain ⟨hd, hb⟩ := h.prog f1
  have q1 : ¬ s = r := fun q => h.sr q.symm
  have q2 := h.su
  refine ⟨⟨v', u', L', hv.frame f2 (fun q => by rcases q with q | q; exact q1 q; exact q2 q) ?_, hu, h.hs, h.hr⟩, hb.trans (hd.low h.hr f2)⟩
  intro k hk q
  obtain ⟨_, _, cur, e⟩ := ownsRow_blk hv.own hk
  rcases q with rfl | q
  · exact tid_ne (by decide) hd.blk e
  · obtain ⟨_, _, cur', e'⟩ := ownsRow_blk hd.own q.symm
    exact tid_ne (by decide) e e'
end Go.Proofs.Ytblickncecpajaa
