/- YtjlbmmiomfpgiaaGreatDoorGf: of the texts Na what is wanted. -/
import Derived.Test.YtjlbmmiomfpgiaaGreatDoorG0
import Derived.Test.YtjlbmmiomfpgiaaGreatDoorGe
import Derived.Test.YtjlbmmiomfpgiaaGreatDoorGz
import Derived.Test.YtjlbmmiomfpgiaaGreatDoorGd
import Derived.Deep.RegionHeld3
import Derived.Maps.AppendAt
import Derived.OrdersHeld
import Derived.Carry
namespace Go.Proofs.YtjlbmmiomfpgiaaGreatDoor
set_option maxRecDepth 100000
open Go.RowKit Go.Lib
attribute [local go_sem ↓] Go.wp_at_zero Go.wp_at_succ
structure Hd where
 sb : Nat
 qb : Nat
 gq : Nat
 hb : Nat
 gh : Nat
 turn : Nat
 M : List En
def Hd.own (h : Hd) (k : Nat) : Prop := OwnS h.sb h.qb h.gq h.hb h.gh k
def Hd.is (h : Hd) (w : World) (n most : Nat) : Prop := IsS w h.sb h.qb h.gq h.hb h.gh n most h.turn h.M
def ptrs (H : List Hd) : List Value := H.map (fun h => .pointer (some ⟨h.sb, 0, none⟩))
structure Sets (w : World) (lo n : Nat) (mo : Nat → Nat) (H : List Hd) : Prop where
 it : ∀ (i : Nat) (h : Hd), H[i]? = some h → h.is w n (mo i)
 low : ∀ (i : Nat) (h : Hd), H[i]? = some h → ∀ k, h.own k → lo ≤ k
 apart : ∀ (i j : Nat) (h h' : Hd), H[i]? = some h → H[j]? = some h' → i ≠ j → ∀ k, h.own k → ¬ h'.own k
section
variable {w w' : World} {lo n : Nat} {mo : Nat → Nat} {H : List Hd}
theorem Hd.is.blocks {h : Hd} {most : Nat} (q : h.is w n most) : ∀ k, h.own k → k < w.heap.size := IsS.blocks q
theorem Sets.nil (w : World) (lo n : Nat) (mo : Nat → Nat) : Sets w lo n mo [] := ⟨by simp, by simp, by simp⟩
theorem Sets.below (h : Sets w lo n mo H) (hb : Below w.heap.size w w') : Sets w' lo n mo H := ⟨fun i x hx => IsS.below (h.it i x hx) hb, h.low, h.apart⟩
theorem Sets.frame {S : Nat → Prop} (h : Sets w lo n mo H) (hf : Fr S w w') (hn : ∀ (i : Nat) (x : Hd), H[i]? = some x → ∀ k, x.own k → ¬ S k) : Sets w' lo n mo H := ⟨fun i x hx => IsS.frame (h.it i x hx) hf (hn i x hx), h.low, h.apart⟩
theorem Sets.snoc (h : Sets w lo n mo H) {x : Hd} (hx : x.is w n (mo H.length)) (h1 : ∀ k, x.own k → lo ≤ k) (h2 : ∀ (i : Nat) (y : Hd), H[i]? = some y → ∀ k, y.own k → ¬ x.own k) : Sets w lo n mo (H ++ [x]) := by
 have key : ∀ i y, (H ++ [x])[i]? = some y → H[i]? = some y ∨ (i = H.length ∧ y = x) := by
  intro i y hy
  rcases Nat.lt_or_ge i H.length with q | q
  ·rw [List.getElem?_append_left q] at hy
   exact .inl hy
  ·rw [List.getElem?_append_right q] at hy
   rcases Nat.eq_zero_or_pos (i - H.length) with e | e
   ·rw [e] at hy
    simp at hy
    exact .inr ⟨by omega, hy.symm⟩
   ·rw [List.getElem?_eq_none (by simp; omega)] at hy
    cases hy
 refine ⟨fun i y hy => ?_, fun i y hy => ?_, fun i j y z hy hz hne => ?_⟩
 ·rcases key i y hy with q | ⟨rfl, rfl⟩
  ·exact h.it i y q
  ·exact hx
 ·rcases key i y hy with q | ⟨rfl, rfl⟩
  ·exact h.low i y q
  ·exact h1
 ·rcases key i y hy with q | ⟨rfl, rfl⟩
  ·rcases key j z hz with q' | ⟨rfl, rfl⟩
   ·exact h.apart i j y z q q' hne
   ·exact h2 i y q
  ·rcases key j z hz with q' | ⟨e, rfl⟩
   ·exact fun k hk hk' => h2 j z q' k hk' hk
   ·exact absurd e.symm hne
theorem Sets.set (h : Sets w lo n mo H) {i : Nat} {x y : Hd} (hx : H[i]? = some x) (hf : Fr x.own w w') (hy : y.is w' n (mo i)) (he : ∀ k, y.own k ↔ x.own k) : Sets w' lo n mo (H.set i y) := by
 have hi : i < H.length := (List.getElem?_eq_some_iff.1 hx).1
 have key : ∀ j z, (H.set i y)[j]? = some z → (j = i ∧ z = y) ∨ (j ≠ i ∧ H[j]? = some z) := by
  intro j z hz
  rcases Nat.decEq j i with q | q
  ·rw [List.getElem?_set_ne (fun e => q e.symm)] at hz
   exact .inr ⟨q, hz⟩
  ·subst q
   rw [List.getElem?_set_self hi] at hz
   exact .inl ⟨rfl, (Option.some.inj hz).symm⟩
 refine ⟨fun j z hz => ?_, fun j z hz k hk => ?_, fun j l z z' hz hz' hne k hk => ?_⟩
 ·rcases key j z hz with ⟨rfl, rfl⟩ | ⟨q, q'⟩
  ·exact hy
  ·exact IsS.frame (h.it j z q') hf (h.apart j i z x q' hx q)
 ·rcases key j z hz with ⟨rfl, rfl⟩ | ⟨q, q'⟩
  ·exact h.low j x hx k ((he k).1 hk)
  ·exact h.low j z q' k hk
 ·rcases key j z hz with ⟨rfl, rfl⟩ | ⟨q, q'⟩
  ·rcases key l z' hz' with ⟨rfl, rfl⟩ | ⟨r, r'⟩
   ·exact absurd rfl hne
   ·exact h.apart j l x z' hx r' hne k ((he k).1 hk)
  ·rcases key l z' hz' with ⟨rfl, rfl⟩ | ⟨r, r'⟩
   ·exact fun q2 => h.apart j l z x q' hx hne k hk ((he k).1 q2)
   ·exact h.apart j l z z' q' r' hne k hk
end
end Go.Proofs.YtjlbmmiomfpgiaaGreatDoor
namespace Go.Proofs.YtjlbmmiomfpgiaaGreatDoor
set_option maxRecDepth 100000
open Go.RowKit Go.Lib
attribute [local go_sem ↓] Go.wp_at_zero Go.wp_at_succ
structure Bld (w0 wr : World) (n : Nat) (mo : Nat → Nat) (v : Value) (H : List Hd) : Prop where
 blk : wr.heap[w0.heap.size + 1]? = some (.cells #[v, .map (some w0.heap.size), .int .i64 (n : Int)] 149 (0, 0))
 row : wr.ownsRow (w0.heap.size + 2) 150 1 v H.length (ptrs H)
 sets : Sets wr (w0.heap.size + 2) n mo H
 fresh : ∀ (i : Nat) (h : Hd), H[i]? = some h → h.M = [] ∧ h.turn = 0
 map : IsM wr w0.heap.size (fun _ => none) 0
 sep : ∀ (i : Nat) (h : Hd), H[i]? = some h → ∀ k, h.own k → v.ownBlock ≠ some k
 bel : Below w0.heap.size w0 wr
 big : w0.heap.size + 2 ≤ wr.heap.size
theorem Dc.own_ge {w : World} {base : Nat} {e : TypeId} {size : Nat} {v : Value} {n : Nat} {xs : List Value} (h : w.ownsRow base e size v n xs) : ∀ k, v.ownBlock = some k → base ≤ k ∧ k < w.heap.size := by
 intro k hk
 rcases h.2 with ⟨rfl, _⟩ | ⟨g, cap, cur, rfl, hb, hg, _⟩
 ·simp [Value.ownBlock] at hk
 ·simp [Value.ownBlock] at hk
  subst hk
  exact ⟨hb, (Array.getElem?_eq_some_iff.1 hg).1⟩
section
variable {w0 wr w1 w3 : World} {n : Nat} {mo : Nat → Nat} {v v' : Value} {H : List Hd} {x : Hd}
theorem Bld.cell (h : Bld w0 wr n mo v H) {W : World} (hW : Below wr.heap.size wr W) : W.cell? ⟨w0.heap.size + 1, 0, none⟩ = some v := by
 rw [hW.cell (p := ⟨w0.heap.size + 1, 0, none⟩) (by have := h.big; show w0.heap.size + 1 < _; omega)]
 unfold World.cell?
 simp only [h.blk]
 rfl
theorem Bld.rowB (h : Bld w0 wr n mo v H) {W : World} (hW : Below wr.heap.size wr W) : W.ownsRow (w0.heap.size + 2) 150 1 v H.length (ptrs H) :=
 Dc.owns_fr h.row (Dc.Fr.of_below' (S := fun _ => False) hW) (fun _ _ _ q => q)
theorem Bld.step (h : Bld w0 wr n mo v H) (hx : x.is w1 n (mo H.length)) (hx0 : x.M = [] ∧ x.turn = 0) (ho : ∀ k, x.own k → wr.heap.size ≤ k) (hb : Below wr.heap.size wr w1)
  (o : Obj) (hr : w3.ownsRow (w0.heap.size + 2) 150 1 v' (H.length + 1) (ptrs H ++ [.pointer (some ⟨x.sb, 0, none⟩)])) (hg : (w1.alloc o).grownBy w3 v.ownBlock) (hat : v'.ownBlock = v.ownBlock ∨ v'.ownBlock = some (w1.alloc o).heap.size) :
  w3.cell? ⟨w0.heap.size + 1, 0, none⟩ = some v ∧ w3.frozen? ⟨w0.heap.size + 1, 0, none⟩ = false ∧ Bld w0 (w3.setCell ⟨w0.heap.size + 1, 0, none⟩ v') n mo v' (H ++ [x]) := by
 have hbig := h.big
 have hbs := hb.size
 have hz : (w1.alloc o).heap.size = w1.heap.size + 1 := by simp
 have hvb := Dc.own_ge h.row
 have hxs := hx.blocks
 have hf1 : Fr (fun k => some k = v.ownBlock) wr (w1.alloc o) := Fr.of_below' (hb.alloc hbs o)
 have hf2 : Fr (fun k => some k = v.ownBlock) (w1.alloc o) w3 := ⟨hg.os, hg.tape, hg.output, hg.size, hg.block⟩
 have hf3 := hf1.trans hf2
 have hpn : ¬ (some (w0.heap.size + 1) = v.ownBlock) := fun e => by have := (hvb _ e.symm).1; omega
 have hmn : ¬ (some w0.heap.size = v.ownBlock) := fun e => by have := (hvb _ e.symm).1; omega
 have hblk : w3.heap[w0.heap.size + 1]? = some (.cells #[v, .map (some w0.heap.size), .int .i64 (n : Int)] 149 (0, 0)) := by
  rw [hf3.block _ (by omega) hpn]; exact h.blk
 have hv'ge := Dc.own_ge hr
 have hv'pb : v'.ownBlock ≠ some (w0.heap.size + 1) := fun e => by have := (hv'ge _ e).1; omega
 have hf4 : Fr (fun k => some k = v.ownBlock ∨ k = w0.heap.size + 1) wr (w3.setCell ⟨w0.heap.size + 1, 0, none⟩ v') := (hf3.wide (fun k _ q => .inl q)).setCell (a := ⟨w0.heap.size + 1, 0, none⟩) (.inr rfl) _
 have hx3 : Fr (fun k => some k = v.ownBlock ∨ k = w0.heap.size + 1) w1 (w3.setCell ⟨w0.heap.size + 1, 0, none⟩ v') := ((((Fr.refl _ _).alloc o).trans hf2).wide (fun k _ q => .inl q)).setCell (a := ⟨w0.heap.size + 1, 0, none⟩) (.inr rfl) _
 refine ⟨by unfold World.cell?; simp only [hblk]; rfl, by unfold World.frozen?; simp only [hblk]; rfl, ?_⟩
 refine ⟨Go.Joins.block_setCell hblk v', ?_, ?_, ?_, ?_, ?_, ?_, ?_⟩
 ·rw [List.length_append]
  have e : ptrs (H ++ [x]) = ptrs H ++ [.pointer (some ⟨x.sb, 0, none⟩)] := by unfold ptrs; rw [List.map_append]; rfl
  rw [e]
  exact ownsRow_setCell_other hr hv'pb v'
 ·refine Sets.snoc (h.sets.frame hf4 ?_) (IsS.frame hx hx3 ?_) (fun k hk => by have := ho k hk; omega) ?_
  ·rintro i y hy k hk (q | q)
   ·exact h.sep i y hy k hk q.symm
   ·have := h.sets.low i y hy k hk; omega
  ·rintro k hk (q | q)
   ·have := (hvb k q.symm).2; have := ho k hk; omega
   ·have := ho k hk; omega
  ·intro i y hy k hk hk'
   have := (h.sets.it i y hy).blocks k hk
   have := ho k hk'
   omega
 ·intro i y hy
  rcases Nat.lt_or_ge i H.length with q | q
  ·rw [List.getElem?_append_left q] at hy
   exact h.fresh i y hy
  ·rw [List.getElem?_append_right q] at hy
   rcases Nat.eq_zero_or_pos (i - H.length) with e | e
   ·rw [e] at hy
    simp at hy
    rw [← hy]
    exact hx0
   ·rw [List.getElem?_eq_none (by simp; omega)] at hy
    cases hy
 ·exact h.map.block (hf4.block _ (by omega) (by rintro (q | q); exact hmn q; omega))
 ·intro i y hy k hk e
  have hkl : k < w1.heap.size := by
   rcases Nat.lt_or_ge i H.length with q | q
   ·rw [List.getElem?_append_left q] at hy
    have := (h.sets.it i y hy).blocks k hk
    omega
   ·rw [List.getElem?_append_right q] at hy
    rcases Nat.eq_zero_or_pos (i - H.length) with e' | e'
    ·rw [e'] at hy
     simp at hy
     rw [← hy] at hk
     exact hxs k hk
    ·rw [List.getElem?_eq_none (by simp; omega)] at hy
     cases hy
  rcases hat with q | q
  ·rw [q] at e
   rcases Nat.lt_or_ge i H.length with r | r
   ·rw [List.getElem?_append_left r] at hy
    exact h.sep i y hy k hk e
   ·rw [List.getElem?_append_right r] at hy
    rcases Nat.eq_zero_or_pos (i - H.length) with e' | e'
    ·rw [e'] at hy
     simp at hy
     rw [← hy] at hk
     have := ho k hk
     have := (hvb k e).2
     omega
    ·rw [List.getElem?_eq_none (by simp; omega)] at hy
     cases hy
  ·rw [q] at e
   injection e with e
   omega
 ·exact h.bel.trans (hf4.below (by omega) (by
   rintro k (q | q)
   ·have := (hvb k q.symm).1; omega
   ·omega))
 ·have := hf4.size
  omega
end
end Go.Proofs.YtjlbmmiomfpgiaaGreatDoor
namespace Go.Proofs.YtjlbmmiomfpgiaaGreatDoor
set_option maxRecDepth 100000
open Go.RowKit Go.Lib
set_option linter.unusedVariables false
attribute [local go_sem ↓] Go.wp_at_zero Go.wp_at_succ
theorem info_partsP {P : Program} {e : TypeId} {z : Value} {n m : Nat} (h : (P.info? e).map (fun i => (i.zero, i.size, i.bytes)) = some (some z, n, m)) : ∃ i, P.info? e = some i ∧ i.zero = some z ∧ i.size = n ∧ i.bytes = m := by
 cases hh : P.info? e with
 | none => rw [hh] at h; cases h
 | some i =>
  rw [hh] at h
  simp at h
  exact ⟨i, rfl, h.1, h.2.1, h.2.2⟩
theorem infoSetP : (Tryz.prog.info? 150).map (fun i => (i.zero, i.size, i.bytes)) = some (some (.pointer none), 1, 8) := by kernel_rfl
theorem step_append_at {P : Program} (w : World) {ops : Array Oper} {o : Oper} {a : Act} {K : Act → World → Prop} {Q : Exit → Act → World → Prop} {E : Prop} (hgd : o.guard = none) (s x : Operand) (t : TypeId)
  (ho : o.op = .call { callee := .builtin .append, args := #[s, x], argTypes := #[t, t] })
  (base : Nat) (e : TypeId) (i : TypeInfo) (z : Value) (size bytes : Nat) (ht : P.underlying t = some (.slice e)) (hi : P.info? e = some i) (hz : i.zero = some z)
  (hsize : i.size = size) (hby : i.bytes = bytes) (hzs : z.cells.size = size) (hsz : 0 < size)
  (v : Value) (n : Nat) (xs : List Value) (hs : a.eval s = v) (hown : w.ownsRow base e size v n xs)
  (ad : Addr) (m c : Nat) (news : List Value) (hx : a.eval x = .slice (some ad) m c) (hl : news.length = m * size) (hnews : ∀ j u, news[j]? = some u → w.cell? (ad.add j) = some u) (h1 : ∀ u ∈ news, u.oneCell' = true)
  (h63 : n + m ≤ maxLen) (hbytes : (n + m) * bytes ≤ 140737488355328) (hbase : base ≤ w.heap.size)
  (h : ∀ v' w', w'.ownsRow base e size v' (n + m) (xs ++ news) → w.grownBy w' v.ownBlock → (v'.ownBlock = v.ownBlock ∨ v'.ownBlock = some w.heap.size) → K (a.put o.dst v') w') :
  if Region.wanted o (yielded ops a.tmps) = true then Oper.wp P o a w K Q else E := by
 have hw : Region.wanted o (yielded ops a.tmps) = true := by simp [Region.wanted, hgd]
 rw [if_pos hw]
 obtain ⟨v', w', hr, h2, h3, h4, h5⟩ := run_append_own_at (P := P) w base t o.type e i z size bytes ht hi hz hsize hby hzs hsz v n xs hown ad m c news hl hnews h1 h63 hbytes hbase
 unfold Oper.wp execOp
 simp only [ho, resolve, invoke, builtin, Sem.run_bind, Sem.run_pure, Result.andThen_ok, List.map_toArray, List.map_cons, List.map_nil, hs, hx, hr]
 exact h v' w' h2 h3 h5
theorem below_pre' {B : Nat} {w0 w w' : World} (h : Below B w w') (a : w.heap = w0.heap) (b : w.os = w0.os) (c : w.tape = w0.tape) (d : w.output = w0.output) : Below B w0 w' :=
 ⟨h.os.trans b, h.tape.trans c, h.output.trans d, by rw [← a]; exact h.size, fun k hk => (h.block k hk).trans (by rw [a])⟩
def After (w0 wr : World) (n : Nat) (mo : Nat → Nat) (a : Option Addr) (c : Nat) (H : List Hd) (most : Nat) : Prop :=
 ∀ (w1 : World) (x : Hd), x.is w1 n most → x.M = [] ∧ x.turn = 0 → (∀ k, x.own k → wr.heap.size ≤ k) → Below wr.heap.size wr w1 →
  w1.cell? ⟨w0.heap.size + 1, 0, none⟩ = some (.slice a H.length c) ∧ (∀ o, (w1.alloc o).cell? ⟨w0.heap.size + 1, 0, none⟩ = some (.slice a H.length c)) ∧
  Hid (∀ W : World, W.heap = (w1.alloc (.cells #[.pointer (some ⟨x.sb, 0, none⟩)] 150)).heap → W.ownsRow (w0.heap.size + 2) 150 1 (.slice a H.length c) H.length (ptrs H)) ∧
  Hid (∀ W : World, W.heap = (w1.alloc (.cells #[.pointer (some ⟨x.sb, 0, none⟩)] 150)).heap → w0.heap.size + 2 ≤ W.heap.size) ∧
  Hid (∀ (W w3 : World) (v' : Value), W = w1.alloc (.cells #[.pointer (some ⟨x.sb, 0, none⟩)] 150) → w3.ownsRow (w0.heap.size + 2) 150 1 v' (H.length + 1) (ptrs H ++ [.pointer (some ⟨x.sb, 0, none⟩)]) → W.grownBy w3 (Value.ownBlock (.slice a H.length c)) → (v'.ownBlock = Value.ownBlock (.slice a H.length c) ∨ v'.ownBlock = some W.heap.size) →
   w3.cell? ⟨w0.heap.size + 1, 0, none⟩ = some (.slice a H.length c) ∧ w3.frozen? ⟨w0.heap.size + 1, 0, none⟩ = false ∧ Bld w0 (w3.setCell ⟨w0.heap.size + 1, 0, none⟩ v') n mo v' (H ++ [x]))
theorem Bld.after {w0 wr : World} {n : Nat} {mo : Nat → Nat} {a : Option Addr} {c : Nat} {H : List Hd} (h : Bld w0 wr n mo (.slice a H.length c) H) (most : Nat) (hm : mo H.length = most) : After w0 wr n mo a c H most := by
 intro w1 x hx hx0 ho hb
 have hba := fun o => hb.alloc hb.size o
 refine ⟨h.cell hb, fun o => h.cell (hba o), fun W hW => ?_, fun W hW => ?_, fun W w3 v' hW hr hg hat => ?_⟩
 ·have := h.rowB (hba (.cells #[.pointer (some ⟨x.sb, 0, none⟩)] 150))
  refine ⟨this.1, ?_⟩
  rcases this.2 with q | ⟨g, cap, cur, e, e1, e2, e3⟩
  ·exact .inl q
  ·exact .inr ⟨g, cap, cur, e, e1, by rw [hW]; exact e2, e3⟩
 ·rw [hW]
  have := h.big
  have := (hba (.cells #[.pointer (some ⟨x.sb, 0, none⟩)] 150)).size
  omega
 ·subst hW
  exact h.step (by rw [hm]; exact hx) hx0 ho hb _ hr hg hat
def moP (np n q : Nat) : Nat → Nat := fun i => if i < np then min q n else n
set_option maxHeartbeats 4000000 in
theorem pnew_ok (np n q : Nat) (w : World) (h1 : 1 ≤ np) (h2 : np ≤ 64) (h3 : 1 ≤ n) (h4 : n ≤ 1024) (h5 : 1 ≤ q) (h6 : q ≤ 256) :
  Calls Tryz.prog 34 #[.int .i64 np, .int .i64 n, .int .i64 q] w fun e w' => ∃ v H, e = .returned (.pointer (some ⟨w.heap.size + 1, 0, none⟩)) ∧ H.length = np + 1 ∧ Bld w w' n (moP np n q) v H := by
 obtain ⟨i0, hi0, hz0, hz1, hz2⟩ := info_partsP infoSetP
 have hmm := @run_makeMap Tryz.prog
 have e1 : ¬ (np : Int) < 1 := by omega
 have e2 : ¬ (64 : Int) < (np : Int) := by omega
 have e3 : ¬ (n : Int) < 1 := by omega
 have e4 : ¬ (1024 : Int) < (n : Int) := by omega
 have e5 : ¬ (q : Int) < 1 := by omega
 have e6 : ¬ (256 : Int) < (q : Int) := by omega
 have HB0 : Hid (Bld w ((w.alloc (.map #[] 0)).alloc (.cells #[.slice none 0 0, .map (some w.heap.size), .int .i64 (n : Int)] 149)) n (moP np n q) (.slice none 0 0) []) := by
  have hz : (w.alloc (.map #[] 0)).heap.size = w.heap.size + 1 := by simp
  refine ⟨?_, World.ownsRow_nil _ _ _ _, Sets.nil _ _ _ _, by simp, ?_, by simp, ((Below.refl _ _).alloc (Nat.le_refl _) _).alloc (by simp) _, by simp⟩
  ·rw [← hz]; exact heap_alloc_new _ _
  ·exact (IsM.made w).block (Below.heap_alloc _ _ _ (by simp))
 go_enter Tryz.func34, Tryz.ntmps34
 go_wp2
 go_loopw [35] (fun i wr => ∃ (j : Nat) (v : Value) (H : List Hd), j ≤ np ∧ H.length = j ∧ i = .int .i64 j ∧ Bld w wr n (moP np n q) v H) (fun i _ => np - (intOf i).toNat)
 case atStart => exact ⟨0, _, _, by omega, rfl, rfl, HB0.out⟩
 case round =>
  obtain ⟨j, v, H, hj, hH, rfl, hB⟩ := hrel
  obtain ⟨a, c, rfl⟩ := Dc.owns_slice hB.row
  by_cases hjl : j < np
  ·have hjl' : (j : Int) < (np : Int) := by omega
   have c0 := hB.cell (Below.refl _ _)
   have HNEW : Hid (∀ W, Calls Tryz.prog 68 #[.int .i64 n, .int .i64 (if n < q then (n : Int) else (q : Int))] W fun e w' => ∃ sb qb gq hb gh, e = .returned (.pointer (some ⟨sb, 0, none⟩)) ∧ (∀ k, OwnS sb qb gq hb gh k → W.heap.size ≤ k) ∧ IsS w' sb qb gq hb gh n (min q n) 0 [] ∧ Below W.heap.size W w') := fun W => by
    have e : (if n < q then (n : Int) else (q : Int)) = ((min q n : Nat) : Int) := by split <;> omega
    rw [e]
    exact new_isS n (min q n) W h3 h4 (by omega) (by omega)
   have HAF := veil (hB.after (min q n) (by unfold moP; rw [if_pos (by omega)]))
   have HHj := veil hH
   have hl64 : H.length ≤ 64 := by omega
   clear hB hH
   go_wp2
   refine wp_region_held_drew (S := (fun _ => True)) (by kernel_rfl) ?_ (fun hHeld => ?_)
   ·trivial
   refine tkX 0 (v := ?_) rfl ?v0 ?_
   case v0 => (intro w hSw; (try dsimp only at hSw); go_simp; try with_reducible rfl)
   try simp only [puX]
   refine tkX 1 (v := ?_) rfl ?v1 ?_
   case v1 => (intro w hSw; (try dsimp only at hSw); go_simp; try with_reducible rfl)
   try simp only [puX]
   refine tkX 2 (v := ?_) rfl ?v2 ?_
   case v2 => (intro w hSw; (try dsimp only at hSw); go_simp; try with_reducible rfl)
   try simp only [puX]
   refine tkX 3 (v := ?_) rfl ?v3 ?_
   case v3 => (intro w hSw; (try dsimp only at hSw); go_simp; try with_reducible rfl)
   try simp only [puX]
   refine tkX 5 (v := ?_) rfl ?v5 ?_
   case v5 => (intro w hSw; (try dsimp only at hSw); go_simp; try with_reducible rfl)
   try simp only [puX]
   refine tkX 6 (v := ?_) rfl ?v6 ?_
   case v6 => (intro w hSw; (try dsimp only at hSw); go_simp; try with_reducible rfl)
   try simp only [puX]
   refine tkX 7 (v := ?_) rfl ?v7 ?_
   case v7 => (intro w hSw; (try dsimp only at hSw); go_simp; try with_reducible rfl)
   try simp only [puX]
   refine tkX 8 (v := ?_) rfl ?v8 ?_
   case v8 => (intro w hSw; (try dsimp only at hSw); go_simp; try with_reducible rfl)
   try simp only [puX]
   refine wpAnyH_ready (rs := [4, 9]) (by kernel_rfl) (by simp) ?_
   refine AllReadyH.cons rfl (fun K hK => ?_) (AllReadyH.cons rfl (fun K hK => ?_) AllReadyH.nil)
   ·skip
    go_simp
    refine hK.out _ _ ?_ (fun hHeld => ?_)
    ·trivial
    clear hK K
    try simp only [puX]
    refine wpAnyH_ready (rs := [9]) (by kernel_rfl) (by simp) ?_
    refine AllReadyH.cons rfl (fun K hK => ?_) AllReadyH.nil
    go_simp
    go_at_call 68
    refine (HNEW.out _).mono ?_
    rintro e w1 ⟨sb, qb, gq, hb, gh, rfl, ho, hq, hb1⟩
    obtain ⟨k1, k2, HROW, HSZ, HST⟩ := HAF.out w1 ⟨sb, qb, gq, hb, gh, 0, []⟩ hq ⟨rfl, rfl⟩ ho (by exact below_pre' hb1 rfl rfl rfl rfl)
    clear ho hq hb1
    refine hK.out _ _ ?_ (fun hHeld => ?_)
    ·trivial
    clear hK K
    try simp only [puX]
    refine wpAnyH_ready (rs := [10]) (by kernel_rfl) (by simp) ?_
    refine AllReadyH.cons rfl (fun K hK => ?_) AllReadyH.nil
    go_simp
    refine hK.out _ _ ?_ (fun hHeld => ?_)
    ·trivial
    clear hK K
    try simp only [puX]
    refine wpAnyH_ready (rs := [11]) (by kernel_rfl) (by simp) ?_
    refine AllReadyH.cons rfl (fun K hK => ?_) AllReadyH.nil
    refine step_append_at _ (by rfl) _ _ _ (by rfl) (w.heap.size + 2) 150 i0 (.pointer none) 1 8 Tryz.underlying147 hi0 hz0 hz1 hz2 rfl (by omega) (.slice a H.length c) H.length (ptrs H) (by rfl) (by exact HROW.out _ rfl) ⟨w1.heap.size, 0, none⟩ 1 1 [.pointer (some ⟨sb, 0, none⟩)] (by rfl) rfl (by exact cell_one_new _ _ _) (by intro u hu; simp at hu; rw [hu]; rfl) (by unfold maxLen; omega) (by omega) (by exact HSZ.out _ rfl) ?_
    intro v' w3 hr3 hg3 hat3
    obtain ⟨z1, z2, z3⟩ := HST.out _ w3 v' rfl hr3 hg3 hat3
    have HX := veil z3
    obtain ⟨a', c', rfl⟩ := Dc.owns_slice hr3
    clear z3 hr3 hg3 hat3
    refine hK.out _ _ ?_ (fun hHeld => ?_)
    ·trivial
    clear hK K
    try simp only [puX]
    refine tkX 12 (v := ?_) rfl ?v12 ?_
    case v12 => (intro w hSw; (try dsimp only at hSw); go_simp; try with_reducible rfl)
    try simp only [puX]
    refine tkX 13 (v := ?_) rfl ?v13 ?_
    case v13 => (intro w hSw; (try dsimp only at hSw); go_simp; try with_reducible rfl)
    try simp only [puX]
    refine wpAnyH_ready (rs := [14]) (by kernel_rfl) (by simp) ?_
    refine AllReadyH.cons rfl (fun K hK => ?_) AllReadyH.nil
    go_simp
    refine hK.out _ _ ?_ (fun hHeld => ?_)
    ·trivial
    clear hK K
    try simp only [puX]
    refine wpAnyH_done (by kernel_rfl) ?_ _
    go_wp2
    go_roundw
    case rel => exact ⟨j + 1, _, _, by omega, by have := HHj.out; simp; omega, by go_num, HX.out⟩
    case measure => simp [intOf]; omega
   ·skip
    go_simp
    go_at_call 68
    refine (HNEW.out _).mono ?_
    rintro e w1 ⟨sb, qb, gq, hb, gh, rfl, ho, hq, hb1⟩
    obtain ⟨k1, k2, HROW, HSZ, HST⟩ := HAF.out w1 ⟨sb, qb, gq, hb, gh, 0, []⟩ hq ⟨rfl, rfl⟩ ho (by exact below_pre' hb1 rfl rfl rfl rfl)
    clear ho hq hb1
    refine hK.out _ _ ?_ (fun hHeld => ?_)
    ·trivial
    clear hK K
    try simp only [puX]
    refine wpAnyH_ready (rs := [4, 10]) (by kernel_rfl) (by simp) ?_
    refine AllReadyH.cons rfl (fun K hK => ?_) (AllReadyH.cons rfl (fun K hK => ?_) AllReadyH.nil)
    ·skip
     go_simp
     refine hK.out _ _ ?_ (fun hHeld => ?_)
     ·trivial
     clear hK K
     try simp only [puX]
     refine wpAnyH_ready (rs := [10]) (by kernel_rfl) (by simp) ?_
     refine AllReadyH.cons rfl (fun K hK => ?_) AllReadyH.nil
     go_simp
     refine hK.out _ _ ?_ (fun hHeld => ?_)
     ·trivial
     clear hK K
     try simp only [puX]
     refine wpAnyH_ready (rs := [11]) (by kernel_rfl) (by simp) ?_
     refine AllReadyH.cons rfl (fun K hK => ?_) AllReadyH.nil
     refine step_append_at _ (by rfl) _ _ _ (by rfl) (w.heap.size + 2) 150 i0 (.pointer none) 1 8 Tryz.underlying147 hi0 hz0 hz1 hz2 rfl (by omega) (.slice a H.length c) H.length (ptrs H) (by rfl) (by exact HROW.out _ rfl) ⟨w1.heap.size, 0, none⟩ 1 1 [.pointer (some ⟨sb, 0, none⟩)] (by rfl) rfl (by exact cell_one_new _ _ _) (by intro u hu; simp at hu; rw [hu]; rfl) (by unfold maxLen; omega) (by omega) (by exact HSZ.out _ rfl) ?_
     intro v' w3 hr3 hg3 hat3
     obtain ⟨z1, z2, z3⟩ := HST.out _ w3 v' rfl hr3 hg3 hat3
     have HX := veil z3
     obtain ⟨a', c', rfl⟩ := Dc.owns_slice hr3
     clear z3 hr3 hg3 hat3
     refine hK.out _ _ ?_ (fun hHeld => ?_)
     ·trivial
     clear hK K
     try simp only [puX]
     refine tkX 12 (v := ?_) rfl ?v12 ?_
     case v12 => (intro w hSw; (try dsimp only at hSw); go_simp; try with_reducible rfl)
     try simp only [puX]
     refine tkX 13 (v := ?_) rfl ?v13 ?_
     case v13 => (intro w hSw; (try dsimp only at hSw); go_simp; try with_reducible rfl)
     try simp only [puX]
     refine wpAnyH_ready (rs := [14]) (by kernel_rfl) (by simp) ?_
     refine AllReadyH.cons rfl (fun K hK => ?_) AllReadyH.nil
     go_simp
     refine hK.out _ _ ?_ (fun hHeld => ?_)
     ·trivial
     clear hK K
     try simp only [puX]
     refine wpAnyH_done (by kernel_rfl) ?_ _
     go_wp2
     go_roundw
     case rel => exact ⟨j + 1, _, _, by omega, by have := HHj.out; simp; omega, by go_num, HX.out⟩
     case measure => simp [intOf]; omega
    ·skip
     go_simp
     refine hK.out _ _ ?_ (fun hHeld => ?_)
     ·trivial
     clear hK K
     try simp only [puX]
     refine wpAnyH_ready (rs := [4]) (by kernel_rfl) (by simp) ?_
     refine AllReadyH.cons rfl (fun K hK => ?_) AllReadyH.nil
     go_simp
     refine hK.out _ _ ?_ (fun hHeld => ?_)
     ·trivial
     clear hK K
     try simp only [puX]
     refine wpAnyH_ready (rs := [11]) (by kernel_rfl) (by simp) ?_
     refine AllReadyH.cons rfl (fun K hK => ?_) AllReadyH.nil
     refine step_append_at _ (by rfl) _ _ _ (by rfl) (w.heap.size + 2) 150 i0 (.pointer none) 1 8 Tryz.underlying147 hi0 hz0 hz1 hz2 rfl (by omega) (.slice a H.length c) H.length (ptrs H) (by rfl) (by exact HROW.out _ rfl) ⟨w1.heap.size, 0, none⟩ 1 1 [.pointer (some ⟨sb, 0, none⟩)] (by rfl) rfl (by exact cell_one_new _ _ _) (by intro u hu; simp at hu; rw [hu]; rfl) (by unfold maxLen; omega) (by omega) (by exact HSZ.out _ rfl) ?_
     intro v' w3 hr3 hg3 hat3
     obtain ⟨z1, z2, z3⟩ := HST.out _ w3 v' rfl hr3 hg3 hat3
     have HX := veil z3
     obtain ⟨a', c', rfl⟩ := Dc.owns_slice hr3
     clear z3 hr3 hg3 hat3
     refine hK.out _ _ ?_ (fun hHeld => ?_)
     ·trivial
     clear hK K
     try simp only [puX]
     refine tkX 12 (v := ?_) rfl ?v12 ?_
     case v12 => (intro w hSw; (try dsimp only at hSw); go_simp; try with_reducible rfl)
     try simp only [puX]
     refine tkX 13 (v := ?_) rfl ?v13 ?_
     case v13 => (intro w hSw; (try dsimp only at hSw); go_simp; try with_reducible rfl)
     try simp only [puX]
     refine wpAnyH_ready (rs := [14]) (by kernel_rfl) (by simp) ?_
     refine AllReadyH.cons rfl (fun K hK => ?_) AllReadyH.nil
     go_simp
     refine hK.out _ _ ?_ (fun hHeld => ?_)
     ·trivial
     clear hK K
     try simp only [puX]
     refine wpAnyH_done (by kernel_rfl) ?_ _
     go_wp2
     go_roundw
     case rel => exact ⟨j + 1, _, _, by omega, by have := HHj.out; simp; omega, by go_num, HX.out⟩
     case measure => simp [intOf]; omega
  ·have hjl' : ¬ (j : Int) < (np : Int) := by omega
   have c0 := hB.cell (Below.refl _ _)
   have HNEW := veil (fun W => new_isS n n W h3 h4 (by omega) (by omega))
   have HAF := veil (hB.after n (by unfold moP; rw [if_neg (by omega)]))
   have HHj := veil hH
   have hl64 : H.length ≤ 64 := by omega
   clear hB hH
   go_wp2
   refine wp_region_held_drew (S := (fun _ => True)) (by kernel_rfl) ?_ (fun hHeld => ?_)
   ·trivial
   refine tkX 0 (v := ?_) rfl ?v0 ?_
   case v0 => (intro w hSw; (try dsimp only at hSw); go_simp; try with_reducible rfl)
   try simp only [puX]
   refine tkX 1 (v := ?_) rfl ?v1 ?_
   case v1 => (intro w hSw; (try dsimp only at hSw); go_simp; try with_reducible rfl)
   try simp only [puX]
   refine tkX 2 (v := ?_) rfl ?v2 ?_
   case v2 => (intro w hSw; (try dsimp only at hSw); go_simp; try with_reducible rfl)
   try simp only [puX]
   refine tkX 3 (v := ?_) rfl ?v3 ?_
   case v3 => (intro w hSw; (try dsimp only at hSw); go_simp; try with_reducible rfl)
   try simp only [puX]
   refine tkX 5 (v := ?_) rfl ?v5 ?_
   case v5 => (intro w hSw; (try dsimp only at hSw); go_simp; try with_reducible rfl)
   try simp only [puX]
   refine tkX 6 (v := ?_) rfl ?v6 ?_
   case v6 => (intro w hSw; (try dsimp only at hSw); go_simp; try with_reducible rfl)
   try simp only [puX]
   refine wpAnyH_ready (rs := [4, 7]) (by kernel_rfl) (by simp) ?_
   refine AllReadyH.cons rfl (fun K hK => ?_) (AllReadyH.cons rfl (fun K hK => ?_) AllReadyH.nil)
   ·skip
    go_simp
    refine hK.out _ _ ?_ (fun hHeld => ?_)
    ·trivial
    clear hK K
    try simp only [puX]
    refine wpAnyH_ready (rs := [7]) (by kernel_rfl) (by simp) ?_
    refine AllReadyH.cons rfl (fun K hK => ?_) AllReadyH.nil
    go_simp
    go_at_call 68
    refine (HNEW.out _).mono ?_
    rintro e w1 ⟨sb, qb, gq, hb, gh, rfl, ho, hq, hb1⟩
    obtain ⟨k1, k2, HROW, HSZ, HST⟩ := HAF.out w1 ⟨sb, qb, gq, hb, gh, 0, []⟩ hq ⟨rfl, rfl⟩ ho (by exact below_pre' hb1 rfl rfl rfl rfl)
    clear ho hq hb1
    refine hK.out _ _ ?_ (fun hHeld => ?_)
    ·trivial
    clear hK K
    try simp only [puX]
    refine wpAnyH_ready (rs := [8]) (by kernel_rfl) (by simp) ?_
    refine AllReadyH.cons rfl (fun K hK => ?_) AllReadyH.nil
    go_simp
    refine hK.out _ _ ?_ (fun hHeld => ?_)
    ·trivial
    clear hK K
    try simp only [puX]
    refine wpAnyH_ready (rs := [9]) (by kernel_rfl) (by simp) ?_
    refine AllReadyH.cons rfl (fun K hK => ?_) AllReadyH.nil
    refine step_append_at _ (by rfl) _ _ _ (by rfl) (w.heap.size + 2) 150 i0 (.pointer none) 1 8 Tryz.underlying147 hi0 hz0 hz1 hz2 rfl (by omega) (.slice a H.length c) H.length (ptrs H) (by rfl) (by exact HROW.out _ rfl) ⟨w1.heap.size, 0, none⟩ 1 1 [.pointer (some ⟨sb, 0, none⟩)] (by rfl) rfl (by exact cell_one_new _ _ _) (by intro u hu; simp at hu; rw [hu]; rfl) (by unfold maxLen; omega) (by omega) (by exact HSZ.out _ rfl) ?_
    intro v' w3 hr3 hg3 hat3
    obtain ⟨z1, z2, z3⟩ := HST.out _ w3 v' rfl hr3 hg3 hat3
    have HX := veil z3
    obtain ⟨a', c', rfl⟩ := Dc.owns_slice hr3
    clear z3 hr3 hg3 hat3
    refine hK.out _ _ ?_ (fun hHeld => ?_)
    ·trivial
    clear hK K
    try simp only [puX]
    refine tkX 10 (v := ?_) rfl ?v10 ?_
    case v10 => (intro w hSw; (try dsimp only at hSw); go_simp; try with_reducible rfl)
    try simp only [puX]
    refine tkX 11 (v := ?_) rfl ?v11 ?_
    case v11 => (intro w hSw; (try dsimp only at hSw); go_simp; try with_reducible rfl)
    try simp only [puX]
    refine wpAnyH_ready (rs := [12]) (by kernel_rfl) (by simp) ?_
    refine AllReadyH.cons rfl (fun K hK => ?_) AllReadyH.nil
    go_simp
    refine hK.out _ _ ?_ (fun hHeld => ?_)
    ·trivial
    clear hK K
    try simp only [puX]
    refine wpAnyH_done (by kernel_rfl) ?_ _
    go_wp2
    go_ret
    first | exact ⟨_, _, rfl, (by have := HHj.out; simp; omega), HX.out⟩ | exact ⟨_, rfl, _, _, rfl, (by have := HHj.out; simp; omega), HX.out⟩ | exact ⟨rfl, _, _, (by have := HHj.out; simp; omega), HX.out⟩ | exact ⟨_, _, (by have := HHj.out; simp; omega), HX.out⟩ | exact ⟨_, rfl, _, (by have := HHj.out; simp; omega), HX.out⟩
   ·skip
    go_simp
    go_at_call 68
    refine (HNEW.out _).mono ?_
    rintro e w1 ⟨sb, qb, gq, hb, gh, rfl, ho, hq, hb1⟩
    obtain ⟨k1, k2, HROW, HSZ, HST⟩ := HAF.out w1 ⟨sb, qb, gq, hb, gh, 0, []⟩ hq ⟨rfl, rfl⟩ ho (by exact below_pre' hb1 rfl rfl rfl rfl)
    clear ho hq hb1
    refine hK.out _ _ ?_ (fun hHeld => ?_)
    ·trivial
    clear hK K
    try simp only [puX]
    refine wpAnyH_ready (rs := [4, 8]) (by kernel_rfl) (by simp) ?_
    refine AllReadyH.cons rfl (fun K hK => ?_) (AllReadyH.cons rfl (fun K hK => ?_) AllReadyH.nil)
    ·skip
     go_simp
     refine hK.out _ _ ?_ (fun hHeld => ?_)
     ·trivial
     clear hK K
     try simp only [puX]
     refine wpAnyH_ready (rs := [8]) (by kernel_rfl) (by simp) ?_
     refine AllReadyH.cons rfl (fun K hK => ?_) AllReadyH.nil
     go_simp
     refine hK.out _ _ ?_ (fun hHeld => ?_)
     ·trivial
     clear hK K
     try simp only [puX]
     refine wpAnyH_ready (rs := [9]) (by kernel_rfl) (by simp) ?_
     refine AllReadyH.cons rfl (fun K hK => ?_) AllReadyH.nil
     refine step_append_at _ (by rfl) _ _ _ (by rfl) (w.heap.size + 2) 150 i0 (.pointer none) 1 8 Tryz.underlying147 hi0 hz0 hz1 hz2 rfl (by omega) (.slice a H.length c) H.length (ptrs H) (by rfl) (by exact HROW.out _ rfl) ⟨w1.heap.size, 0, none⟩ 1 1 [.pointer (some ⟨sb, 0, none⟩)] (by rfl) rfl (by exact cell_one_new _ _ _) (by intro u hu; simp at hu; rw [hu]; rfl) (by unfold maxLen; omega) (by omega) (by exact HSZ.out _ rfl) ?_
     intro v' w3 hr3 hg3 hat3
     obtain ⟨z1, z2, z3⟩ := HST.out _ w3 v' rfl hr3 hg3 hat3
     have HX := veil z3
     obtain ⟨a', c', rfl⟩ := Dc.owns_slice hr3
     clear z3 hr3 hg3 hat3
     refine hK.out _ _ ?_ (fun hHeld => ?_)
     ·trivial
     clear hK K
     try simp only [puX]
     refine tkX 10 (v := ?_) rfl ?v10 ?_
     case v10 => (intro w hSw; (try dsimp only at hSw); go_simp; try with_reducible rfl)
     try simp only [puX]
     refine tkX 11 (v := ?_) rfl ?v11 ?_
     case v11 => (intro w hSw; (try dsimp only at hSw); go_simp; try with_reducible rfl)
     try simp only [puX]
     refine wpAnyH_ready (rs := [12]) (by kernel_rfl) (by simp) ?_
     refine AllReadyH.cons rfl (fun K hK => ?_) AllReadyH.nil
     go_simp
     refine hK.out _ _ ?_ (fun hHeld => ?_)
     ·trivial
     clear hK K
     try simp only [puX]
     refine wpAnyH_done (by kernel_rfl) ?_ _
     go_wp2
     go_ret
     first | exact ⟨_, _, rfl, (by have := HHj.out; simp; omega), HX.out⟩ | exact ⟨_, rfl, _, _, rfl, (by have := HHj.out; simp; omega), HX.out⟩ | exact ⟨rfl, _, _, (by have := HHj.out; simp; omega), HX.out⟩ | exact ⟨_, _, (by have := HHj.out; simp; omega), HX.out⟩ | exact ⟨_, rfl, _, (by have := HHj.out; simp; omega), HX.out⟩
    ·skip
     go_simp
     refine hK.out _ _ ?_ (fun hHeld => ?_)
     ·trivial
     clear hK K
     try simp only [puX]
     refine wpAnyH_ready (rs := [4]) (by kernel_rfl) (by simp) ?_
     refine AllReadyH.cons rfl (fun K hK => ?_) AllReadyH.nil
     go_simp
     refine hK.out _ _ ?_ (fun hHeld => ?_)
     ·trivial
     clear hK K
     try simp only [puX]
     refine wpAnyH_ready (rs := [9]) (by kernel_rfl) (by simp) ?_
     refine AllReadyH.cons rfl (fun K hK => ?_) AllReadyH.nil
     refine step_append_at _ (by rfl) _ _ _ (by rfl) (w.heap.size + 2) 150 i0 (.pointer none) 1 8 Tryz.underlying147 hi0 hz0 hz1 hz2 rfl (by omega) (.slice a H.length c) H.length (ptrs H) (by rfl) (by exact HROW.out _ rfl) ⟨w1.heap.size, 0, none⟩ 1 1 [.pointer (some ⟨sb, 0, none⟩)] (by rfl) rfl (by exact cell_one_new _ _ _) (by intro u hu; simp at hu; rw [hu]; rfl) (by unfold maxLen; omega) (by omega) (by exact HSZ.out _ rfl) ?_
     intro v' w3 hr3 hg3 hat3
     obtain ⟨z1, z2, z3⟩ := HST.out _ w3 v' rfl hr3 hg3 hat3
     have HX := veil z3
     obtain ⟨a', c', rfl⟩ := Dc.owns_slice hr3
     clear z3 hr3 hg3 hat3
     refine hK.out _ _ ?_ (fun hHeld => ?_)
     ·trivial
     clear hK K
     try simp only [puX]
     refine tkX 10 (v := ?_) rfl ?v10 ?_
     case v10 => (intro w hSw; (try dsimp only at hSw); go_simp; try with_reducible rfl)
     try simp only [puX]
     refine tkX 11 (v := ?_) rfl ?v11 ?_
     case v11 => (intro w hSw; (try dsimp only at hSw); go_simp; try with_reducible rfl)
     try simp only [puX]
     refine wpAnyH_ready (rs := [12]) (by kernel_rfl) (by simp) ?_
     refine AllReadyH.cons rfl (fun K hK => ?_) AllReadyH.nil
     go_simp
     refine hK.out _ _ ?_ (fun hHeld => ?_)
     ·trivial
     clear hK K
     try simp only [puX]
     refine wpAnyH_done (by kernel_rfl) ?_ _
     go_wp2
     go_ret
     first | exact ⟨_, _, rfl, (by have := HHj.out; simp; omega), HX.out⟩ | exact ⟨_, rfl, _, _, rfl, (by have := HHj.out; simp; omega), HX.out⟩ | exact ⟨rfl, _, _, (by have := HHj.out; simp; omega), HX.out⟩ | exact ⟨_, _, (by have := HHj.out; simp; omega), HX.out⟩ | exact ⟨_, rfl, _, (by have := HHj.out; simp; omega), HX.out⟩
end Go.Proofs.YtjlbmmiomfpgiaaGreatDoor
namespace Go.Proofs.YtjlbmmiomfpgiaaGreatDoor
set_option maxRecDepth 100000
open Go.RowKit Go.Lib
attribute [local go_sem ↓] Go.wp_at_zero Go.wp_at_succ
def whereF (n : Nat) : List Hd → Int → Int → Option Int
 | [], _, _ => none
 | h :: H, i, id => if ((if 0 ≤ id ∧ id < (n : Int) then keyOf h.M id.toNat else none : Option Ke.K)).isSome then some i else whereF n H (i + 1) id
def sumH (H : List Hd) : Nat := (H.map (fun h => h.M.length)).sum
structure IsP (w : World) (base lo pb mb n np q : Nat) (v : Value) (H : List Hd) : Prop where
 n1 : 1 ≤ n ∧ n ≤ 1024
 np1 : 1 ≤ np ∧ np ≤ 64
 q1 : 1 ≤ q ∧ q ≤ 256
 blk : w.heap[pb]? = some (.cells #[v, .map (some mb), .int .i64 (n : Int)] 149 (0, 0))
 row : w.ownsRow base 150 1 v H.length (ptrs H)
 len : H.length = np + 1
 sets : Sets w lo n (moP np n q) H
 map : IsM w mb (whereF n H 0) (sumH H)
 sep : ∀ (i : Nat) (h : Hd), H[i]? = some h → ∀ k, h.own k → v.ownBlock ≠ some k ∧ k ≠ pb ∧ k ≠ mb
 ne : pb ≠ mb ∧ v.ownBlock ≠ some pb ∧ v.ownBlock ≠ some mb
section
variable {w : World} {base lo pb mb n np q : Nat} {v : Value} {H : List Hd}
theorem IsP.c0 (h : IsP w base lo pb mb n np q v H) : w.cell? ⟨pb, 0, none⟩ = some v := by unfold World.cell?; simp only [h.blk]; rfl
theorem IsP.c1 (h : IsP w base lo pb mb n np q v H) : w.cell? ⟨pb, 1, none⟩ = some (.map (some mb)) := by unfold World.cell?; simp only [h.blk]; rfl
theorem IsP.c2 (h : IsP w base lo pb mb n np q v H) : w.cell? ⟨pb, 2, none⟩ = some (.int .i64 (n : Int)) := by unfold World.cell?; simp only [h.blk]; rfl
theorem wrap_np (np : Nat) (h : np ≤ 64) : IntKind.i64.wrap (((np + 1 : Nat) : Int) - 1) = (np : Int) := by
 simp [IntKind.wrap, IntKind.bits, IntKind.signed]
 omega
theorem pshared_ok (h : IsP w base lo pb mb n np q v H) :
  Calls Tryz.prog 141 #[.pointer (some ⟨pb, 0, none⟩)] w fun e w' => e = .returned (.int .i64 (np : Int)) ∧ w' = w := by
 obtain ⟨a, c, rfl⟩ := Dc.owns_slice h.row
 have c0 := h.c0
 rw [h.len] at c0
 have hnp := h.np1
 have hw := wrap_np np hnp.2
 clear h
 go_enter Tryz.func141, Tryz.ntmps141
 go_wp2
 go_ret
 exact ⟨by first | rfl | (simp; omega), rfl⟩
theorem plen_ok (h : IsP w base lo pb mb n np q v H) :
  Calls Tryz.prog 150 #[.pointer (some ⟨pb, 0, none⟩)] w fun e w' => e = .returned (.int .i64 (sumH H : Int)) ∧ w' = w := by
 have c1 := h.c1
 have hl := h.map.len
 clear h
 go_enter Tryz.func150, Tryz.ntmps150
 go_wp2
 go_ret
 exact ⟨rfl, rfl⟩
theorem phas_ok (h : IsP w base lo pb mb n np q v H) (p : Int) :
  Calls Tryz.prog 139 #[.pointer (some ⟨pb, 0, none⟩), .int .i64 p] w fun e w' => e = .returned (.bool (decide (0 ≤ p ∧ p < (np : Int)))) ∧ w' = w := by
 have HS := veil (pshared_ok h)
 clear h
 by_cases h0 : 0 ≤ p
 ·by_cases h1 : p < (np : Int)
  ·have e : decide (0 ≤ p ∧ p < (np : Int)) = true := decide_eq_true ⟨h0, h1⟩
   rw [e]
   go_enter Tryz.func139, Tryz.ntmps139
   go_wp2_with (go_at_call 141; refine (HS.out).mono ?_; rintro e w1 ⟨rfl, hw⟩; replace hw := hw.symm; subst hw)
   go_ret
   exact ⟨by first | rfl | simp [*], rfl⟩
  ·have e : decide (0 ≤ p ∧ p < (np : Int)) = false := decide_eq_false (fun q => h1 q.2)
   rw [e]
   go_enter Tryz.func139, Tryz.ntmps139
   go_wp2_with (go_at_call 141; refine (HS.out).mono ?_; rintro e w1 ⟨rfl, hw⟩; replace hw := hw.symm; subst hw)
   go_ret
   exact ⟨by first | rfl | simp [*], rfl⟩
 ·have e : decide (0 ≤ p ∧ p < (np : Int)) = false := decide_eq_false (fun q => h0 q.1)
  rw [e]
  have h0' : p < 0 := by omega
  go_enter Tryz.func139, Tryz.ntmps139
  go_wp2
  go_ret
  exact ⟨by first | rfl | simp [*], rfl⟩
end
end Go.Proofs.YtjlbmmiomfpgiaaGreatDoor
namespace Go.Proofs.YtjlbmmiomfpgiaaGreatDoor
set_option maxRecDepth 100000
open Go.RowKit Go.Lib
attribute [local go_sem ↓] Go.wp_at_zero Go.wp_at_succ
section
variable {w : World} {base lo pb mb n np q : Nat} {v : Value} {H : List Hd}
theorem IsP.rows (h : IsP w base lo pb mb n np q v H) : ∃ g cap, v = .slice (some ⟨g, 0, none⟩) (np + 1) cap ∧ base ≤ g ∧ g < w.heap.size ∧ ∀ (i : Nat) (x : Hd), H[i]? = some x → w.cell? ⟨g, i, none⟩ = some (.pointer (some ⟨x.sb, 0, none⟩)) := by
 have hl := h.len
 obtain ⟨g, cap, e, h1, h2⟩ := World.ownsRow.form h.row (by omega)
 have e' := e
 rw [hl] at e'
 refine ⟨g, cap, e', h1, h2, fun i x hx => ?_⟩
 have hi : i < H.length := (List.getElem?_eq_some_iff.1 hx).1
 have hr := h.row
 rw [e] at hr
 rw [World.ownsRow.cellAt hr i (by omega)]
 unfold ptrs
 rw [List.getElem?_map, hx]
 rfl
theorem pset_at (h : IsP w base lo pb mb n np q v H) (id : Int) (hi : (Lit.int .i64 id).wf = true) (i : Nat) (x : Hd) (hx : H[i]? = some x) (hw : whereF n H 0 id = some (i : Int)) :
  Calls Tryz.prog 129 #[.pointer (some ⟨pb, 0, none⟩), .int .i64 id] w fun e w' => e = .returned (.pointer (some ⟨x.sb, 0, none⟩)) ∧ w' = w := by
 have c1 := h.c1
 have hl := h.map.look id hi
 rw [hw] at hl
 simp only [Option.getD_some, Option.isSome_some] at hl
 obtain ⟨g, cap, e, _, _, hc⟩ := h.rows
 have c0 := h.c0
 rw [e] at c0
 have hc' := hc i x hx
 have hil : i < np + 1 := by have := (List.getElem?_eq_some_iff.1 hx).1; have := h.len; omega
 have hnp := h.np1
 clear h hc hw hx
 go_enter Tryz.func129, Tryz.ntmps129
 go_wp2
 go_ret
 exact ⟨rfl, rfl⟩
theorem pshared_c (W : World) (pb np : Nat) (a : Option Addr) (c : Nat) (hnp : np ≤ 64) (c0 : W.cell? ⟨pb, 0, none⟩ = some (.slice a (np + 1) c)) :
  Calls Tryz.prog 141 #[.pointer (some ⟨pb, 0, none⟩)] W fun e w' => e = .returned (.int .i64 (np : Int)) ∧ w' = W := by
 have hw := wrap_np np hnp
 go_enter Tryz.func141, Tryz.ntmps141
 go_wp2
 go_ret
 exact ⟨by first | rfl | (simp; omega), rfl⟩
set_option maxRecDepth 20000 in
theorem pset_no (h : IsP w base lo pb mb n np q v H) (id : Int) (hi : (Lit.int .i64 id).wf = true) (x : Hd) (hx : H[np]? = some x) (hw : whereF n H 0 id = none) :
  Calls Tryz.prog 129 #[.pointer (some ⟨pb, 0, none⟩), .int .i64 id] w fun e w' => e = .returned (.pointer (some ⟨x.sb, 0, none⟩)) ∧ Below w.heap.size w w' := by
 have c1 := h.c1
 have hl := h.map.look id hi
 rw [hw] at hl
 simp only [Option.getD_none, Option.isSome_none] at hl
 obtain ⟨g, cap, e, _, _, hc⟩ := h.rows
 have c0 := h.c0
 rw [e] at c0
 have hc' := hc np x hx
 have hnp := h.np1
 have HS := veil (fun W h0 => pshared_c W pb np (some ⟨g, 0, none⟩) cap hnp.2 h0)
 have C0 := veil c0
 have b0 : (0 : Int) ≤ (np : Int) := by omega
 have b1 : (np : Int) < (np : Int) + 1 := by omega
 have b2 : (np : Int) < ((np + 1 : Nat) : Int) := by omega
 have b3 : np < np + 1 := by omega
 have b4 : ¬ (np : Int) < 0 := by omega
 clear h hc hw hx
 go_enter Tryz.func129, Tryz.ntmps129
 go_wp2
 go_region_held3 (fun w' => w'.cell? ⟨pb, 0, none⟩ = some (.slice (some ⟨g, 0, none⟩) (np + 1) cap) ∧ w'.cell? ⟨g, np, none⟩ = some (.pointer (some ⟨x.sb, 0, none⟩)))
  (first
   | go_keep)
  (first
   | (go_at_call 141; refine (HS.out _ (by exact C0.out)).mono ?_; rintro e w1 ⟨rfl, hw⟩; replace hw := hw.symm; subst hw))
 go_wp2
 go_ret
 exact ⟨rfl, by first | exact Below.refl _ _ | exact below_drewN (Below.refl _ _) _ | exact below_drewN (Below.refl _ _) 1⟩
end
end Go.Proofs.YtjlbmmiomfpgiaaGreatDoor
namespace Go.Proofs.YtjlbmmiomfpgiaaGreatDoor
set_option maxRecDepth 100000
open Go.RowKit Go.Lib
def Un (H : List Hd) : Prop := ∀ (i j : Nat) (x y : Hd) (id : Nat), H[i]? = some x → H[j]? = some y → (keyOf x.M id).isSome → (keyOf y.M id).isSome → i = j
def hasAt (n : Nat) (h : Hd) (id : Int) : Bool := ((if 0 ≤ id ∧ id < (n : Int) then keyOf h.M id.toNat else none : Option Ke.K)).isSome
theorem whereF_cons (n : Nat) (h : Hd) (H : List Hd) (k id : Int) : whereF n (h :: H) k id = if hasAt n h id = true then some k else whereF n H (k + 1) id := rfl
theorem hasAt_iff {n : Nat} {h : Hd} {id : Int} : hasAt n h id = true ↔ 0 ≤ id ∧ id < (n : Int) ∧ (keyOf h.M id.toNat).isSome = true := by
 unfold hasAt
 by_cases q : 0 ≤ id ∧ id < (n : Int)
 ·rw [if_pos q]
  exact ⟨fun r => ⟨q.1, q.2, r⟩, fun r => r.2.2⟩
 ·rw [if_neg q]
  exact ⟨fun r => (by cases r), fun r => absurd ⟨r.1, r.2.1⟩ q⟩
theorem whereF_none (n : Nat) (id : Int) : ∀ (H : List Hd) (k : Int), (∀ (i : Nat) (x : Hd), H[i]? = some x → 0 ≤ id → keyOf x.M id.toNat = none) → whereF n H k id = none
 | [], _, _ => rfl
 | h :: H, k, hn => by
  rw [whereF_cons, if_neg (fun q => by
   have q := hasAt_iff.1 q
   rw [hn 0 h rfl q.1] at q
   exact absurd q.2.2 (by decide))]
  exact whereF_none n id H (k + 1) (fun i x hx => hn (i + 1) x (by simpa using hx))
theorem whereF_inv (n : Nat) (id : Int) : ∀ (H : List Hd) (k c : Int), whereF n H k id = some c → ∃ (i : Nat) (x : Hd), H[i]? = some x ∧ c = k + (i : Int) ∧ 0 ≤ id ∧ id < (n : Int) ∧ (keyOf x.M id.toNat).isSome
 | [], _, _, h => by cases h
 | h :: H, k, c, hc => by
  rw [whereF_cons] at hc
  by_cases q : hasAt n h id = true
  ·rw [if_pos q] at hc
   injection hc with hc
   exact ⟨0, h, rfl, by simp [hc], hasAt_iff.1 q⟩
  ·rw [if_neg q] at hc
   obtain ⟨i, x, h1, h2, h3⟩ := whereF_inv n id H (k + 1) c hc
   exact ⟨i + 1, x, by simpa using h1, by rw [h2]; push_cast; omega, h3⟩
theorem whereF_miss {n : Nat} {id : Int} {x : Hd} : ∀ {H : List Hd} {k : Int} {i : Nat}, H[i]? = some x → whereF n H k id = none → hasAt n x id = false
 | [], _, _, h, _ => by simp at h
 | h :: H, k, i, hi, hn => by
  rw [whereF_cons] at hn
  by_cases q : hasAt n h id = true
  ·rw [if_pos q] at hn
   cases hn
  ·rw [if_neg q] at hn
   cases i with
   | zero =>
    simp at hi
    subst hi
    simpa using q
   | succ i => exact whereF_miss (i := i) (by simpa using hi) hn
theorem whereF_some (n : Nat) (H : List Hd) (hu : Un H) (i : Nat) (x : Hd) (hx : H[i]? = some x) (id : Nat) (hi : id < n) (hk : (keyOf x.M id).isSome) : whereF n H 0 (id : Int) = some (i : Int) := by
 cases hf : whereF n H 0 (id : Int) with
 | some c =>
  obtain ⟨j, y, h1, h2, _, _, h5⟩ := whereF_inv n _ H 0 c hf
  have := hu i j x y id hx h1 hk h5
  rw [h2, this]; simp
 | none =>
  have h1 := whereF_miss hx hf
  have h2 : hasAt n x (id : Int) = true := hasAt_iff.2 ⟨by omega, by omega, hk⟩
  rw [h1] at h2
  cases h2
theorem whereF_no {n : Nat} {H : List Hd} {id : Nat} (hw : whereF n H 0 (id : Int) = none) (hi : id < n) {i : Nat} {x : Hd} (hx : H[i]? = some x) : keyOf x.M id = none := by
 have h1 := whereF_miss hx hw
 cases hk : keyOf x.M id with
 | none => rfl
 | some k =>
  have h2 : hasAt n x (id : Int) = true := hasAt_iff.2 ⟨by omega, by omega, by simp [hk]⟩
  rw [h1] at h2
  cases h2
theorem whereF_congr (n : Nat) (id : Int) : ∀ (H H' : List Hd) (k : Int), H.length = H'.length → (∀ (i : Nat) (x x' : Hd), H[i]? = some x → H'[i]? = some x' → 0 ≤ id → (keyOf x.M id.toNat).isSome = (keyOf x'.M id.toNat).isSome) → whereF n H k id = whereF n H' k id
 | [], [], _, _, _ => rfl
 | [], _ :: _, _, h, _ => by simp at h
 | _ :: _, [], _, h, _ => by simp at h
 | h :: H, h' :: H', k, hl, hc => by
  have e : hasAt n h id = hasAt n h' id := by
   rw [Bool.eq_iff_iff, hasAt_iff, hasAt_iff]
   constructor
   ·rintro ⟨q1, q2, q3⟩; exact ⟨q1, q2, by rw [← hc 0 h h' rfl rfl q1]; exact q3⟩
   ·rintro ⟨q1, q2, q3⟩; exact ⟨q1, q2, by rw [hc 0 h h' rfl rfl q1]; exact q3⟩
  rw [whereF_cons, whereF_cons, e, whereF_congr n id H H' (k + 1) (by simpa using hl) (fun i x x' hx hx' => hc (i + 1) x x' (by simpa using hx) (by simpa using hx'))]
theorem set_key {H : List Hd} {i : Nat} {y : Hd} (hi : i < H.length) {j : Nat} {z : Hd} (hz : (H.set i y)[j]? = some z) : (j = i ∧ z = y) ∨ (j ≠ i ∧ H[j]? = some z) := by
 rcases Nat.decEq j i with q | q
 ·rw [List.getElem?_set_ne (fun e => q e.symm)] at hz
  exact .inr ⟨q, hz⟩
 ·subst q
  rw [List.getElem?_set_self hi] at hz
  exact .inl ⟨rfl, (Option.some.inj hz).symm⟩
theorem sumH_set : ∀ {H : List Hd} {i : Nat} {x y : Hd}, H[i]? = some x → sumH (H.set i y) + x.M.length = sumH H + y.M.length
 | [], _, _, _, h => by simp at h
 | h :: H, 0, x, y, hx => by
  simp at hx
  subst hx
  simp [sumH]
  omega
 | h :: H, i + 1, x, y, hx => by
  have := sumH_set (H := H) (i := i) (x := x) (y := y) (by simpa using hx)
  simp only [sumH, List.set_cons_succ, List.map_cons, List.sum_cons] at this ⊢
  omega
theorem sumH_le {b : Nat} : ∀ {H : List Hd}, (∀ (i : Nat) (x : Hd), H[i]? = some x → x.M.length ≤ b) → sumH H ≤ H.length * b
 | [], _ => by simp [sumH]
 | h :: H, hb => by
  have h1 := hb 0 h rfl
  have := sumH_le (H := H) (fun i x hx => hb (i + 1) x (by simpa using hx))
  simp only [sumH, List.map_cons, List.sum_cons, List.length_cons, Nat.add_mul, Nat.one_mul] at this ⊢
  omega
theorem has_iff {M : List En} {id : Nat} : (keyOf M id).isSome = true ↔ ∃ y ∈ M, y.1 = id := by
 cases h : keyOf M id with
 | none =>
  have := keyOf_none.1 h
  simp only [Option.isSome_none]
  constructor
  ·intro q; cases q
  ·rintro ⟨y, hy, e⟩; exact absurd e (this y hy)
 | some k =>
  simp only [Option.isSome_some, true_iff]
  unfold keyOf at h
  cases hf : M.find? (fun y => y.1 == id) with
  | none => rw [hf] at h; cases h
  | some y => exact ⟨y, List.mem_of_find?_eq_some hf, by simpa using List.find?_some hf⟩
theorem has_put {M : List En} {id j : Nat} {k : Ke.K} : (keyOf (put (id, k) M) j).isSome = true ↔ j = id ∨ (keyOf M j).isSome = true := by
 rw [has_iff, has_iff]
 constructor
 ·rintro ⟨y, hy, rfl⟩
  rcases mem_put.1 hy with rfl | hy
  ·exact .inl rfl
  ·exact .inr ⟨y, hy, rfl⟩
 ·rintro (rfl | ⟨y, hy, rfl⟩)
  ·exact ⟨_, mem_put.2 (.inl rfl), rfl⟩
  ·exact ⟨y, mem_put.2 (.inr hy), rfl⟩
theorem has_cut {M : List En} {id j : Nat} : (keyOf (cut id M) j).isSome = true ↔ j ≠ id ∧ (keyOf M j).isSome = true := by
 rw [has_iff, has_iff]
 constructor
 ·rintro ⟨y, hy, rfl⟩
  exact ⟨(mem_cut.1 hy).2, y, (mem_cut.1 hy).1, rfl⟩
 ·rintro ⟨h, y, hy, rfl⟩
  exact ⟨y, mem_cut.2 ⟨hy, h⟩, rfl⟩
theorem where_put {n : Nat} {H : List Hd} (hu : Un H) {i : Nat} {x y : Hd} (hx : H[i]? = some x) {id : Nat} (hi : id < n) {k : Ke.K} (hy : y.M = put (id, k) x.M) (hw : whereF n H 0 (id : Int) = none) :
  Un (H.set i y) ∧ whereF n (H.set i y) 0 = setF (whereF n H 0) (id : Int) (some (i : Int)) := by
 have hil : i < H.length := (List.getElem?_eq_some_iff.1 hx).1
 have U : Un (H.set i y) := by
  intro a b s t j hs ht h1 h2
  rcases set_key hil hs with ⟨rfl, rfl⟩ | ⟨q, q'⟩
  ·rcases set_key hil ht with ⟨rfl, rfl⟩ | ⟨r, r'⟩
   ·rfl
   ·rw [hy, has_put] at h1
    rcases h1 with rfl | h1
    ·rw [whereF_no hw hi r'] at h2; cases h2
    ·exact hu _ _ x t j hx r' h1 h2
  ·rcases set_key hil ht with ⟨rfl, rfl⟩ | ⟨r, r'⟩
   ·rw [hy, has_put] at h2
    rcases h2 with rfl | h2
    ·rw [whereF_no hw hi q'] at h1; cases h1
    ·exact hu _ _ s x j q' hx h1 h2
   ·exact hu a b s t j q' r' h1 h2
 refine ⟨U, funext fun j => ?_⟩
 unfold setF
 by_cases e : j = (id : Int)
 ·subst e
  rw [if_pos rfl]
  refine whereF_some n _ U i y (List.getElem?_set_self hil) id hi ?_
  rw [hy, has_put]
  exact .inl rfl
 ·rw [if_neg e]
  refine whereF_congr n j _ _ 0 (by simp) (fun a s t hs ht hj => ?_)
  rcases set_key hil hs with ⟨rfl, rfl⟩ | ⟨q, q'⟩
  ·rw [hx] at ht
   injection ht with ht
   subst ht
   rw [Bool.eq_iff_iff, hy, has_put]
   constructor
   ·rintro (q | q)
    ·omega
    ·exact q
   ·exact .inr
  ·rw [q'] at ht
   injection ht with ht
   rw [ht]
theorem where_cut {n : Nat} {H : List Hd} (hu : Un H) {i : Nat} {x y : Hd} (hx : H[i]? = some x) {id : Nat} (hy : y.M = cut id x.M) (hw : (keyOf x.M id).isSome = true) :
  Un (H.set i y) ∧ whereF n (H.set i y) 0 = setF (whereF n H 0) (id : Int) none := by
 have hil : i < H.length := (List.getElem?_eq_some_iff.1 hx).1
 have sub : ∀ (a : Nat) (s : Hd) (j : Nat), (H.set i y)[a]? = some s → (keyOf s.M j).isSome = true → ∃ t, H[a]? = some t ∧ (keyOf t.M j).isSome = true := by
  intro a s j hs h1
  rcases set_key hil hs with ⟨rfl, rfl⟩ | ⟨q, q'⟩
  ·rw [hy, has_cut] at h1
   exact ⟨x, hx, h1.2⟩
  ·exact ⟨s, q', h1⟩
 have U : Un (H.set i y) := by
  intro a b s t j hs ht h1 h2
  obtain ⟨s', p1, p2⟩ := sub a s j hs h1
  obtain ⟨t', p3, p4⟩ := sub b t j ht h2
  exact hu a b s' t' j p1 p3 p2 p4
 refine ⟨U, funext fun j => ?_⟩
 unfold setF
 by_cases e : j = (id : Int)
 ·subst e
  rw [if_pos rfl]
  refine whereF_none n _ _ 0 (fun a s hs _ => ?_)
  simp only [Int.toNat_natCast]
  cases hk : keyOf s.M id with
  | none => rfl
  | some k =>
   exfalso
   rcases set_key hil hs with ⟨rfl, rfl⟩ | ⟨q, q'⟩
   ·have := (has_cut (M := x.M) (id := id) (j := id)).1 (by rw [← hy, hk]; rfl)
    exact this.1 rfl
   ·exact q (hu a i s x id q' hx (by rw [hk]; rfl) hw)
 ·rw [if_neg e]
  refine whereF_congr n j _ _ 0 (by simp) (fun a s t hs ht hj => ?_)
  rcases set_key hil hs with ⟨rfl, rfl⟩ | ⟨q, q'⟩
  ·rw [hx] at ht
   injection ht with ht
   subst ht
   rw [Bool.eq_iff_iff, hy, has_cut]
   constructor
   ·exact fun q => q.2
   ·exact fun q => ⟨by omega, q⟩
  ·rw [q'] at ht
   injection ht with ht
   rw [ht]
theorem where_same {n : Nat} {H : List Hd} (hu : Un H) {i : Nat} {x y : Hd} (hx : H[i]? = some x) (hy : ∀ id, (keyOf y.M id).isSome = (keyOf x.M id).isSome) :
  Un (H.set i y) ∧ whereF n (H.set i y) 0 = whereF n H 0 := by
 have hil : i < H.length := (List.getElem?_eq_some_iff.1 hx).1
 have sub : ∀ (a : Nat) (s : Hd) (j : Nat), (H.set i y)[a]? = some s → ∃ t, H[a]? = some t ∧ (keyOf t.M j).isSome = (keyOf s.M j).isSome := by
  intro a s j hs
  rcases set_key hil hs with ⟨rfl, rfl⟩ | ⟨q, q'⟩
  ·exact ⟨x, hx, (hy j).symm⟩
  ·exact ⟨s, q', rfl⟩
 refine ⟨fun a b s t j hs ht h1 h2 => ?_, funext fun j => ?_⟩
 ·obtain ⟨s', p1, p2⟩ := sub a s j hs
  obtain ⟨t', p3, p4⟩ := sub b t j ht
  exact hu a b s' t' j p1 p3 (p2.trans h1) (p4.trans h2)
 ·refine whereF_congr n j _ _ 0 (by simp) (fun a s t hs ht hj => ?_)
  obtain ⟨s', p1, p2⟩ := sub a s j.toNat hs
  rw [ht] at p1
  injection p1 with p1
  rw [p1, p2]
end Go.Proofs.YtjlbmmiomfpgiaaGreatDoor
namespace Go.Proofs.YtjlbmmiomfpgiaaGreatDoor
set_option maxRecDepth 100000
open Go.RowKit Go.Lib
def Hd.to (x : Hd) (t : Nat) (M : List En) : Hd := { x with turn := t, M := M }
theorem Hd.own_to (x : Hd) (t : Nat) (M : List En) (k : Nat) : (x.to t M).own k ↔ x.own k := Iff.rfl
theorem ptrs_to {H : List Hd} {i : Nat} {x : Hd} (hx : H[i]? = some x) (t : Nat) (M : List En) : ptrs (H.set i (x.to t M)) = ptrs H := by
 unfold ptrs
 rw [List.map_set]
 have : ((H.map (fun h : Hd => Value.pointer (some ⟨h.sb, 0, none⟩)))).set i (Value.pointer (some ⟨x.sb, 0, none⟩)) = H.map (fun h : Hd => Value.pointer (some ⟨h.sb, 0, none⟩)) := by
  apply List.ext_getElem?
  intro j
  rw [List.getElem?_set]
  split
  ·rename_i e
   subst e
   rw [List.getElem?_map, hx]
   split
   ·rfl
   ·rename_i q
    simp at q
    have := (List.getElem?_eq_some_iff.1 hx).1
    omega
  ·rfl
 exact this
theorem owns_at {S : Nat → Prop} {w w' : World} {base : Nat} {e : TypeId} {size : Nat} {v : Value} {n : Nat} {xs : List Value} (h : w.ownsRow base e size v n xs) (hf : Fr S w w') (hn : ∀ k, v.ownBlock = some k → ¬ S k) : w'.ownsRow base e size v n xs := by
 refine ⟨h.1, ?_⟩
 rcases h.2 with r | ⟨g, cap, cur, rfl, hb, hg, r⟩
 ·exact .inl r
 ·refine .inr ⟨g, cap, cur, rfl, hb, ?_, r⟩
  rw [hf.block g (Array.getElem?_eq_some_iff.1 hg).1 (hn g rfl)]
  exact hg
structure IsQ (w : World) (base lo pb mb n np q : Nat) (v : Value) (T : Nat) (H : List Hd) : Prop where
 p : IsP w base lo pb mb n np q v H
 un : Un H
 tn : ∀ (i : Nat) (h : Hd), H[i]? = some h → h.turn ≤ T
section
variable {w w' wa wb : World} {base lo pb mb n np q T : Nat} {v : Value} {H : List Hd}
theorem IsP.pbl (h : IsP w base lo pb mb n np q v H) : pb < w.heap.size := (Array.getElem?_eq_some_iff.1 h.blk).1
theorem IsP.below (h : IsP w base lo pb mb n np q v H) (hb : Below w.heap.size w w') : IsP w' base lo pb mb n np q v H :=
 ⟨h.n1, h.np1, h.q1, (hb.block _ h.pbl).trans h.blk, Dc.owns_fr h.row (Dc.Fr.of_below' (S := fun _ => False) hb) (fun _ _ _ q => q), h.len, h.sets.below hb, h.map.block (hb.block _ h.map.lt), h.sep, h.ne⟩
theorem IsQ.below (h : IsQ w base lo pb mb n np q v T H) (hb : Below w.heap.size w w') : IsQ w' base lo pb mb n np q v T H := ⟨h.p.below hb, h.un, h.tn⟩
def OwnP (pb mb : Nat) (v : Value) (H : List Hd) (k : Nat) : Prop := k = pb ∨ k = mb ∨ v.ownBlock = some k ∨ ∃ (i : Nat) (h : Hd), H[i]? = some h ∧ h.own k
theorem IsP.blocks (h : IsP w base lo pb mb n np q v H) : ∀ k, OwnP pb mb v H k → k < w.heap.size := by
 rintro k (rfl | rfl | e | ⟨i, x, hx, hk⟩)
 ·exact h.pbl
 ·exact h.map.lt
 ·exact (Dc.own_ge h.row k e).2
 ·exact (h.sets.it i x hx).blocks k hk
theorem IsP.frame {S : Nat → Prop} (h : IsP w base lo pb mb n np q v H) (hf : Fr S w w') (hn : ∀ k, OwnP pb mb v H k → ¬ S k) : IsP w' base lo pb mb n np q v H :=
 ⟨h.n1, h.np1, h.q1, (hf.block _ h.pbl (hn _ (.inl rfl))).trans h.blk, owns_at h.row hf (fun k e => hn k (.inr (.inr (.inl e)))), h.len, h.sets.frame hf (fun i x hx k hk => hn k (.inr (.inr (.inr ⟨i, x, hx, hk⟩)))), h.map.block (hf.block _ h.map.lt (hn _ (.inr (.inl rfl)))), h.sep, h.ne⟩
theorem IsP.turned (h : IsP w base lo pb mb n np q v H) {i : Nat} {x : Hd} (hx : H[i]? = some x) {t : Nat} {M : List En} (hf : Fr x.own w wa) (hy : (x.to t M).is wa n (moP np n q i)) (hg : Fr (fun k => k = mb) wa wb)
  (hm : IsM wb mb (whereF n (H.set i (x.to t M)) 0) (sumH (H.set i (x.to t M)))) : IsP wb base lo pb mb n np q v (H.set i (x.to t M)) ∧ Fr (fun k => k = mb ∨ x.own k) w wb := by
 have hF : Fr (fun k => k = mb ∨ x.own k) w wb := (hf.wide (fun _ _ q => .inr q)).trans (hg.wide (fun _ _ q => .inl q))
 have hil : i < H.length := (List.getElem?_eq_some_iff.1 hx).1
 have ho := fun k => Hd.own_to x t M k
 have hs := h.sep i x hx
 refine ⟨⟨h.n1, h.np1, h.q1, ?_, ?_, by rw [List.length_set]; exact h.len, ?_, hm, ?_, h.ne⟩, hF⟩
 ·rw [hF.block _ h.pbl (by rintro (e | e); exact h.ne.1 e; exact (hs _ e).2.1 rfl)]
  exact h.blk
 ·rw [List.length_set, ptrs_to hx]
  refine owns_at h.row hF ?_
  rintro k e (rfl | e')
  ·exact h.ne.2.2 e
  ·exact (hs k e').1 e
 ·have := h.sets.set hx hf hy ho
  refine this.frame hg ?_
  intro j z hz k hk e
  subst e
  rcases set_key hil hz with ⟨rfl, rfl⟩ | ⟨_, r⟩
  ·exact (hs _ ((ho _).1 hk)).2.2 rfl
  ·exact (h.sep j z r _ hk).2.2 rfl
 ·intro j z hz k hk
  rcases set_key hil hz with ⟨rfl, rfl⟩ | ⟨_, r⟩
  ·exact hs _ ((ho _).1 hk)
  ·exact h.sep j z r _ hk
theorem IsQ.turned (h : IsQ w base lo pb mb n np q v T H) {i : Nat} {x : Hd} (hx : H[i]? = some x) {t : Nat} (ht : t ≤ x.turn + 1) {M : List En} (hf : Fr x.own w wa) (hy : (x.to t M).is wa n (moP np n q i)) (hg : Fr (fun k => k = mb) wa wb) (hu : Un (H.set i (x.to t M)))
  (hm : IsM wb mb (whereF n (H.set i (x.to t M)) 0) (sumH (H.set i (x.to t M)))) : IsQ wb base lo pb mb n np q v (T + 1) (H.set i (x.to t M)) ∧ Fr (fun k => k = mb ∨ x.own k) w wb := by
 have hil : i < H.length := (List.getElem?_eq_some_iff.1 hx).1
 obtain ⟨a, b⟩ := h.p.turned hx hf hy hg hm
 refine ⟨⟨a, hu, fun j z hz => ?_⟩, b⟩
 rcases set_key hil hz with ⟨rfl, rfl⟩ | ⟨_, r⟩
 ·have := h.tn _ x hx
  show t ≤ T + 1
  omega
 ·have := h.tn j z r
  omega
theorem IsP.at (h : IsP w base lo pb mb n np q v H) {i : Nat} (hi : i ≤ np) : ∃ x, H[i]? = some x := by
 have := h.len
 exact ⟨H[i]'(by omega), List.getElem?_eq_getElem _⟩
theorem IsP.sum_le (h : IsP w base lo pb mb n np q v H) : sumH H ≤ 66560 := by
 have := sumH_le (H := H) (b := 1024) (fun i x hx => by
  have h1 := (h.sets.it i x hx).fit
  have h2 := h.n1
  have : moP np n q i ≤ n := by unfold moP; split <;> omega
  show x.M.length ≤ 1024
  omega)
 rw [h.len] at this
 have := h.np1
 have : (np + 1) * 1024 ≤ 65 * 1024 := Nat.mul_le_mul_right _ (by omega)
 omega
theorem IsS.roomy {sb qb gq hb gh most turn : Nat} {M : List En} (h : IsS w sb qb gq hb gh n most turn M) {id : Nat} (hi : id < n) (hk : keyOf M id = none) : M.length < n := by
 have hnd := h.nd
 have hr : ∀ y ∈ M, y.1 < n := by obtain ⟨R, L, hS, hI⟩ := id_S h; exact hI.rng hS
 have hm := keyOf_none.1 hk
 have := Bq.nodup_le n (id :: M.map (·.1)) (List.nodup_cons.2 ⟨fun q => by obtain ⟨y, hy, e⟩ := List.mem_map.1 q; exact hm y hy e, hnd⟩) (by
  intro y hy
  rcases List.mem_cons.1 hy with rfl | hy
  ·exact hi
  ·obtain ⟨z, hz, rfl⟩ := List.mem_map.1 hy
   exact hr z hz)
 simp at this
 omega
end
end Go.Proofs.YtjlbmmiomfpgiaaGreatDoor
