/-
  Frames; rows that a call owns; Same of two lists of ids.
  The walks of the program's Fork and List.
  The program's Fork and List, over the list that a heap holds.
-/
import Derived.Test.YtjmbadadelelfaaMh
import Derived.Laws.OwnMore
import Derived.Maps.AppendAt
import Derived.Deep.AppendLies
import Derived.Deep.RegionHeld3
import Derived.Deep.DrawnRows
import Derived.Lib.SmallJoins
import Derived.OneCell
import Derived.Deep.MidRow
namespace Go.Proofs.Ytjmbadadelelfaa.Ph
open Go.RowKit Go.Lib

/-- A frame: blocks that were there and do not belong to S are as they were. -/
structure Fr (S : Nat → Prop) (w w' : World) : Prop where
  os : w'.os = w.os
  tape : w'.tape = w.tape
  output : w'.output = w.output
  size : w.heap.size ≤ w'.heap.size
  block : ∀ k, k < w.heap.size → ¬ S k → w'.heap[k]? = w.heap[k]?
section
variable {S S' : Nat → Prop} {w w' w'' : World}
theorem Fr.refl (S : Nat → Prop) (w : World) : Fr S w w := ⟨rfl, rfl, rfl, Nat.le_refl _, fun _ _ _ => rfl⟩
theorem Fr.wide (h : Fr S w w') (hs : ∀ k, k < w.heap.size → S k → S' k) : Fr S' w w' := ⟨h.os, h.tape, h.output, h.size, fun k hk hn => h.block k hk (fun q => hn (hs k hk q))⟩
theorem Fr.trans (h : Fr S w w') (h' : Fr S w' w'') : Fr S w w'' :=
  ⟨h'.os.trans h.os, h'.tape.trans h.tape, h'.output.trans h.output, Nat.le_trans h.size h'.size, fun k hk hn => (h'.block k (Nat.lt_of_lt_of_le hk h.size) hn).trans (h.block k hk hn)⟩
theorem Fr.alloc (h : Fr S w w') (o : Obj) : Fr S w (w'.alloc o) :=
  ⟨h.os, h.tape, h.output, Nat.le_trans h.size (by simp), fun k hk hn => (Below.heap_alloc _ _ _ (Nat.lt_of_lt_of_le hk h.size)).trans (h.block k hk hn)⟩
theorem Fr.setCell (h : Fr S w w') {a : Addr} (hb : S a.block) (u : Value) : Fr S w (w'.setCell a u) :=
  ⟨h.os, h.tape, h.output, by simpa using h.size, fun k hk hn => (Below.heap_setCell _ _ _ _ (fun e => hn (by rw [e]; exact hb))).trans (h.block k hk hn)⟩
theorem Fr.drewN (h : Fr S w w') (q : Nat) : Fr S w (w'.drewN q) := ⟨h.os, h.tape, h.output, h.size, h.block⟩
theorem Fr.cell (h : Fr S w w') {a : Addr} (hk : a.block < w.heap.size) (hn : ¬ S a.block) : w'.cell? a = w.cell? a := World.cell?_of_block (h.block _ hk hn)
theorem Fr.frozen (h : Fr S w w') {a : Addr} (hk : a.block < w.heap.size) (hn : ¬ S a.block) : w'.frozen? a = w.frozen? a := World.frozen?_of_block (h.block _ hk hn)
theorem Fr.of_below {B : Nat} (h : Below B w w') : Fr (fun k => B ≤ k) w w' := ⟨h.os, h.tape, h.output, h.size, fun k _ hn => h.block k (by omega)⟩
theorem Fr.of_below' (h : Below w.heap.size w w') : Fr S w w' := ⟨h.os, h.tape, h.output, h.size, fun k hk _ => h.block k hk⟩
theorem Fr.below {B : Nat} (h : Fr S w w') (hb : B ≤ w.heap.size) (hs : ∀ k, S k → B ≤ k) : Below B w w' := ⟨h.os, h.tape, h.output, h.size, fun k hk => h.block k (by omega) (fun q => by have := hs k q; omega)⟩
theorem Fr.of_only {b g : Nat} (h : Only b g w w') : Fr (fun k => k = b ∨ k = g) w w' := ⟨h.os, h.tape, h.output, h.size, fun k hk hn => h.block k hk (fun e => hn (.inl e)) (fun e => hn (.inr e))⟩
theorem Fr.of_grown {row : Option Nat} (h : w.grownBy w' row) : Fr (fun k => some k = row) w w' := ⟨h.os, h.tape, h.output, h.size, h.block⟩
theorem Fr.grown {row : Option Nat} (h : Fr S w w') : (∀ k, k < w.heap.size → S k → some k = row) → w.grownBy w' row := fun hs => ⟨h.os, h.tape, h.output, h.size, fun k hk hn => h.block k hk (fun q => hn (hs k hk q))⟩
end

theorem ownsRow_base {w : World} {base base' : Nat} {e : TypeId} {size : Nat} {v : Value} {n : Nat} {xs : List Value} (h : w.ownsRow base e size v n xs) (hb : base' ≤ base) : w.ownsRow base' e size v n xs := by
  refine ⟨h.1, ?_⟩
  rcases h.2 with hn | ⟨g, cap, cur, e, h0, rest⟩
  · exact .inl hn
  · exact .inr ⟨g, cap, cur, e, Nat.le_trans hb h0, rest⟩

theorem owns_slice {w : World} {base : Nat} {e : TypeId} {size : Nat} {v : Value} {n : Nat} {xs : List Value} (h : w.ownsRow base e size v n xs) : ∃ a c, v = .slice a n c := by
  rcases h.2 with ⟨e, e0⟩ | ⟨g, cap, cur, e, _⟩
  · exact ⟨none, 0, by rw [e, e0]⟩
  · exact ⟨_, _, e⟩

theorem wrap_succ (k : Nat) (h : k ≤ 1024) : IntKind.i64.wrap ((k : Int) + 1) = ((k + 1 : Nat) : Int) := by
  simp [IntKind.wrap, IntKind.bits, IntKind.signed]
  omega
theorem quiet_of {w w' : World} (a : w'.heap = w.heap) (b : w'.os = w.os) (c : w'.tape = w.tape) (d : w'.output = w.output) : Fr (fun _ => False) w w' := ⟨b, c, d, by rw [a]; exact Nat.le_refl _, fun k _ _ => by rw [a]⟩

theorem Fr.pre {S : Nat → Prop} {w0 w w' : World} (h : Fr S w w') (a : w.heap = w0.heap) (b : w.os = w0.os) (c : w.tape = w0.tape) (d : w.output = w0.output) : Fr S w0 w' := ((quiet_of a b c d).wide (fun _ _ q => q.elim)).trans h

theorem IsH.frame {S : Nat → Prop} {w w' : World} {b g n : Nat} {L : List Item} (h : IsH w b g n L) (hf : Fr S w w') (h1 : ¬ S b) (h2 : ¬ S g) : IsH w' b g n L :=
  h.kept (hf.block b h.blocks.1 h1) (hf.block g h.blocks.2.1 h2)

/-- append onto what the call owns, at a step of a region that draws its order, whether or not something is appended. -/
theorem step_append_any {P : Program} (w : World) {ops : Array Oper} {o : Oper} {a : Act} {K : Act → World → Prop} {Q : Exit → Act → World → Prop} {E : Prop} (hgd : o.guard = none) (s x : Operand) (t : TypeId)
    (ho : o.op = .call { callee := .builtin .append, args := #[s, x], argTypes := #[t, t] })
    (base : Nat) (e : TypeId) (i : TypeInfo) (z : Value) (size bytes : Nat) (ht : P.underlying t = some (.slice e)) (hi : P.info? e = some i) (hz : i.zero = some z)
    (hsize : i.size = size) (hby : i.bytes = bytes) (hzs : z.cells.size = size) (hsz : 0 < size)
    (v : Value) (n : Nat) (xs : List Value) (hs : a.eval s = v) (hown : w.ownsRow base e size v n xs)
    (ad : Addr) (m c : Nat) (news : List Value) (hx : a.eval x = .slice (some ad) m c) (hl : news.length = m * size) (hnews : ∀ j u, news[j]? = some u → w.cell? (ad.add j) = some u) (h1 : ∀ u ∈ news, u.oneCell' = true)
    (h63 : n + m ≤ maxLen) (hbytes : (n + m) * bytes ≤ 140737488355328) (hbase : base ≤ w.heap.size)
    (h : ∀ v' w', w'.ownsRow base e size v' (n + m) (xs ++ news) → w.grownBy w' v.ownBlock → K (a.put o.dst v') w') :
    if Region.wanted o (yielded ops a.tmps) = true then Oper.wp P o a w K Q else E := by
  have hw : Region.wanted o (yielded ops a.tmps) = true := by simp [Region.wanted, hgd]
  rw [if_pos hw]
  exact wp_append_own w s x t ho base e i z size bytes ht hi hz hsize hby hzs hsz v n xs hs hown ad m c news hx hl hnews h1 h63 hbytes hbase fun v' w' h2 h3 _ => h v' w' h2 h3

/-- append of nothing at all, at a step of a region that draws its order. -/
theorem step_append_nil {P : Program} (w : World) {ops : Array Oper} {o : Oper} {a : Act} {K : Act → World → Prop} {Q : Exit → Act → World → Prop} {E : Prop} (hgd : o.guard = none) (s x : Operand) (t : TypeId)
    (ho : o.op = .call { callee := .builtin .append, args := #[s, x], argTypes := #[t, t] })
    (base : Nat) (e : TypeId) (i : TypeInfo) (size : Nat) (ht : P.underlying t = some (.slice e)) (hi : P.info? e = some i)
    (v : Value) (n : Nat) (xs : List Value) (hs : a.eval s = v) (hown : w.ownsRow base e size v n xs) (hx : a.eval x = .slice none 0 0)
    (h : K (a.put o.dst v) w) :
    if Region.wanted o (yielded ops a.tmps) = true then Oper.wp P o a w K Q else E := by
  have hw : Region.wanted o (yielded ops a.tmps) = true := by simp [Region.wanted, hgd]
  rw [if_pos hw]
  have hr := run_append_owned_none (P := P) w base t o.type e i size ht hi v n xs hown
  unfold Oper.wp execOp
  simp only [ho, resolve, invoke, builtin, Sem.run_bind, Sem.run_pure, Result.andThen_ok, List.map_toArray, List.map_cons, List.map_nil, hs, hx, hr]
  exact h

/-- A slice of ids that lies in a block from base on. -/
def IL (w : World) (base : Nat) (v : Value) (xs : List Int) : Prop := w.ownsRow base 3 1 v xs.length (xs.map (Value.int .i64))
theorem IL.slice {w : World} {base : Nat} {v : Value} {xs : List Int} (h : IL w base v xs) : ∃ a cap, v = .slice a xs.length cap := owns_slice h
theorem IL.cells {w : World} {base : Nat} {v : Value} {xs : List Int} (h : IL w base v xs) (hx : xs ≠ []) : ∃ g cap, v = .slice (some ⟨g, 0, none⟩) xs.length cap ∧ base ≤ g ∧ g < w.heap.size ∧ ∀ j, j < xs.length → w.cell? ⟨g, j, none⟩ = some (.int .i64 (xs.getD j 0)) := by
  have hpos : 0 < xs.length := List.length_pos_iff.2 hx
  obtain ⟨g, cap, rfl, h1, h2⟩ := World.ownsRow.form h hpos
  refine ⟨g, cap, rfl, h1, h2, fun j hj => ?_⟩
  rw [World.ownsRow.cellAt h j (by omega)]
  simp [List.getD, hj]
theorem owns_fr {w w' : World} {S : Nat → Prop} {base : Nat} {e : TypeId} {size : Nat} {v : Value} {n : Nat} {xs : List Value} (h : w.ownsRow base e size v n xs) (hf : Fr S w w') (h2 : ∀ k, base ≤ k → k < w.heap.size → ¬ S k) : w'.ownsRow base e size v n xs := by
  refine ⟨h.1, ?_⟩
  rcases h.2 with hn | ⟨g, cap, cur, rfl, hb, hgg, rest⟩
  · exact .inl hn
  · refine .inr ⟨g, cap, cur, rfl, hb, ?_, rest⟩
    rw [hf.block g (Array.getElem?_eq_some_iff.1 hgg).1 (h2 g hb (Array.getElem?_eq_some_iff.1 hgg).1)]
    exact hgg
theorem IL.below {w w' : World} {base : Nat} {v : Value} {xs : List Int} (h : IL w base v xs) (hb : Below w.heap.size w w') : IL w' base v xs := owns_fr h (Fr.of_below' (S := fun _ => False) hb) (fun _ _ _ q => q)
theorem IL.apart {w w' : World} {base b g : Nat} {v : Value} {xs : List Int} (h : IL w base v xs) (hf : Fr (fun k => k = b ∨ k = g) w w') (h1 : b < base) (h2 : g < base) : IL w' base v xs := owns_fr h hf (fun k hk _ q => by omega)

set_option maxHeartbeats 1000000 in
theorem same_walk (w : World) (ga gb len ca cb : Nat) (xs : Nat → Int) (hl : len ≤ 1024)
    (hca : ∀ j, j < len → w.cell? ⟨ga, j, none⟩ = some (.int .i64 (xs j))) (hcb : ∀ j, j < len → w.cell? ⟨gb, j, none⟩ = some (.int .i64 (xs j))) :
    Calls Try.prog 26 #[.slice (some ⟨ga, 0, none⟩) len ca, .slice (some ⟨gb, 0, none⟩) len cb] w fun e w' => e = .returned (.bool true) ∧ ∃ q, w' = w.drewN q := by
  have HA := veil hca
  have HB := veil hcb
  clear hca hcb
  go_enter Try.func26, Try.ntmps26
  go_wp2
  go_loopw [5] (fun i wr => ∃ j q : Nat, j ≤ len ∧ i = .int .i64 j ∧ wr = w.drewN q) (fun i _ => len - (intOf i).toNat)
  case atStart => exact ⟨0, 0, by omega, rfl, rfl⟩
  case round =>
    obtain ⟨j, q, hj, rfl, rfl⟩ := hrel
    by_cases hjl : j < len
    · have e1 := HA.out j hjl
      have e2 := HB.out j hjl
      go_wp2
      go_quiet (fail)
      go_wp2
      go_roundw
      case rel => exact ⟨j + 1, _, by omega, by go_num, rfl⟩
      case measure => simp [intOf]; omega
    · go_wp2
      go_ret
      exact ⟨rfl, _, rfl⟩
theorem same_empty (w : World) (a b : Option Addr) (ca cb : Nat) :
    Calls Try.prog 26 #[.slice a 0 ca, .slice b 0 cb] w fun e w' => e = .returned (.bool true) ∧ ∃ q, w' = w.drewN q := by
  go_enter Try.func26, Try.ntmps26
  go_wp2
  go_loopw [5] (fun i wr => i = .int .i64 0 ∧ wr = w) (fun i _ => 0)
  case atStart => exact ⟨rfl, rfl⟩
  case round =>
    obtain ⟨rfl, rfl⟩ := hrel
    go_wp2
    go_ret
    exact ⟨rfl, 0, rfl⟩
theorem same_yes (w : World) (b1 b2 : Nat) (v1 v2 : Value) (xs : List Int) (hl : xs.length ≤ 1024) (h1 : IL w b1 v1 xs) (h2 : IL w b2 v2 xs) :
    Calls Try.prog 26 #[v1, v2] w fun e w' => e = .returned (.bool true) ∧ ∃ q, w' = w.drewN q := by
  by_cases hx : xs = []
  · subst hx
    obtain ⟨a, ca, rfl⟩ := h1.slice
    obtain ⟨b, cb, rfl⟩ := h2.slice
    exact same_empty w a b ca cb
  · obtain ⟨ga, ca, rfl, _, _, c1⟩ := h1.cells hx
    obtain ⟨gb, cb, rfl, _, _, c2⟩ := h2.cells hx
    exact same_walk w ga gb xs.length ca cb (fun j => xs.getD j 0) hl c1 c2

theorem infoInt : (Try.prog.info? 3).map (fun i => (i.zero, i.size, i.bytes)) = some (some (.int .i64 0), 1, 8) := by kernel_rfl
theorem cell_one_new (w : World) (v : Value) (t : TypeId) : ∀ j u, [v][j]? = some u → (w.alloc (.cells #[v] t)).cell? ((⟨w.heap.size, 0, none⟩ : Addr).add j) = some u := by
  intro j u h
  match j, h with
  | 0, h =>
    simp at h
    subst h
    have e : ((⟨w.heap.size, 0, none⟩ : Addr).add 0) = ⟨w.heap.size, 0, none⟩ := rfl
    rw [e]
    unfold World.cell?
    simp only [(MapKept.heap_alloc w (.cells #[v] t)).1]
    rfl
end Go.Proofs.Ytjmbadadelelfaa.Ph

namespace Go.Proofs.Ytjmbadadelelfaa.Ph
open Go.RowKit Go.Lib

/-- The cells of the nodes. -/
def nodeRow (D S I C A B : Nat → Nat) (T : Nat → Bool) : Nat → List Value
  | 0 => []
  | k + 1 => nodeRow D S I C A B T k ++ [.int .u64 (D k), .int .u64 (S k), .int .i64 (I k), .int .i64 (C k), .int .i64 (A k), .int .i64 (B k), .bool (T k)]
theorem nodeRow_len (D S I C A B : Nat → Nat) (T : Nat → Bool) : ∀ k, (nodeRow D S I C A B T k).length = k * 7
  | 0 => rfl
  | k + 1 => by rw [nodeRow, List.length_append, nodeRow_len D S I C A B T k]; simp; omega
theorem nodeRow_one (D S I C A B : Nat → Nat) (T : Nat → Bool) : ∀ k, ∀ u ∈ nodeRow D S I C A B T k, u.oneCell' = true
  | 0 => by simp [nodeRow]
  | k + 1 => by
    intro u hu
    rw [nodeRow, List.mem_append] at hu
    rcases hu with q | q
    · exact nodeRow_one D S I C A B T k u q
    · simp at q
      rcases q with rfl | rfl | rfl | rfl | rfl | rfl | rfl <;> rfl
theorem nodeRow_at (D S I C A B : Nat → Nat) (T : Nat → Bool) (s : Nat) : ∀ k, s < k → ∀ i, i < 7 → (nodeRow D S I C A B T k)[s * 7 + i]? = ([.int .u64 (D s), .int .u64 (S s), .int .i64 (I s), .int .i64 (C s), .int .i64 (A s), .int .i64 (B s), .bool (T s)] : List Value)[i]?
  | 0, h, _, _ => by omega
  | k + 1, h, i, hi => by
    have hl := nodeRow_len D S I C A B T k
    by_cases e : s = k
    · subst e
      rw [nodeRow, List.getElem?_append_right (by omega), hl, show s * 7 + i - s * 7 = i by omega]
    · rw [nodeRow, List.getElem?_append_left (by omega)]
      exact nodeRow_at D S I C A B T s k (by omega) i hi
theorem nodeRow_cells {w : World} {b g n rt ct : Nat} {D S I C A B : Nat → Nat} {T : Nat → Bool} (h : Rep w b g n rt ct D S I C A B T) : ∀ j u, (nodeRow D S I C A B T (n + 1))[j]? = some u → w.cell? ((⟨g, 0, none⟩ : Addr).add j) = some u := by
  intro j u hu
  have hj : j < (nodeRow D S I C A B T (n + 1)).length := (List.getElem?_eq_some_iff.1 hu).1
  rw [nodeRow_len] at hj
  have hadd : (⟨g, 0, none⟩ : Addr).add j = ⟨g, j, none⟩ := by unfold Addr.add; split <;> simp_all
  rw [hadd, ← hu]
  have ha := nodeRow_at D S I C A B T (j / 7) (n + 1) (by omega)
  have hm : j = j / 7 * 7 + 0 ∨ j = j / 7 * 7 + 1 ∨ j = j / 7 * 7 + 2 ∨ j = j / 7 * 7 + 3 ∨ j = j / 7 * 7 + 4 ∨ j = j / 7 * 7 + 5 ∨ j = j / 7 * 7 + 6 := by omega
  rcases hm with e | e | e | e | e | e | e
  · rw [e, ha 0 (by omega)]; exact h.nd (j / 7) (by omega)
  · rw [e, ha 1 (by omega)]; exact h.ns (j / 7) (by omega)
  · rw [e, ha 2 (by omega)]; exact h.ni (j / 7) (by omega)
  · rw [e, ha 3 (by omega)]; exact h.nc (j / 7) (by omega)
  · rw [e, ha 4 (by omega)]; exact h.na (j / 7) (by omega)
  · rw [e, ha 5 (by omega)]; exact h.nb (j / 7) (by omega)
  · rw [e, ha 6 (by omega)]; exact h.nt (j / 7) (by omega)

theorem eq_nil_no (w : World) (g n cp : Nat) : (binOp BinOp.eql 88 (.slice (some ⟨g, 0, none⟩) n cp) (.slice none 0 0)).run Try.prog w = .ok (.bool false) w := by kernel_rfl
/-- A heap whose nodes and block were copied. -/
theorem fork_rep {w w2 : World} {b g n rt ct B2 g' cap' : Nat} {D S I C A B : Nat → Nat} {T : Nat → Bool} (_h : Rep w b g n rt ct D S I C A B T)
    (c0 : w2.cell? ⟨B2, 0, none⟩ = some (.slice (some ⟨g', 0, none⟩) (n + 1) cap')) (c1 : w2.cell? ⟨B2, 1, none⟩ = some (.int .i64 (rt : Int))) (c2 : w2.cell? ⟨B2, 2, none⟩ = some (.int .i64 (ct : Int)))
    (hf : ∀ o, w2.frozen? ⟨B2, o, none⟩ = false) (hne : B2 ≠ g') {base : Nat} (hown : w2.ownsRow base 94 7 (.slice (some ⟨g', 0, none⟩) (n + 1) cap') (n + 1) (nodeRow D S I C A B T (n + 1))) :
    Rep w2 B2 g' n rt ct D S I C A B T := by
  have lk : ∀ j, j < (n + 1) * 7 → w2.cell? ⟨g', j, none⟩ = (nodeRow D S I C A B T (n + 1))[j]? := fun j hj => hown.cellAt j hj
  have ha := fun s (hs : s ≤ n) => nodeRow_at D S I C A B T s (n + 1) (by omega)
  refine ⟨hne, ⟨cap', c0⟩, c1, c2, fun x hx => ?_, fun x hx => ?_, fun x hx => ?_, fun x hx => ?_, fun x hx => ?_, fun x hx => ?_, fun x hx => ?_, hf, fun o => hown.frozenAt o⟩
  · rw [lk _ (by omega)]; exact ha x hx 0 (by omega)
  · rw [lk _ (by omega)]; exact ha x hx 1 (by omega)
  · rw [lk _ (by omega)]; exact ha x hx 2 (by omega)
  · rw [lk _ (by omega)]; exact ha x hx 3 (by omega)
  · rw [lk _ (by omega)]; exact ha x hx 4 (by omega)
  · rw [lk _ (by omega)]; exact ha x hx 5 (by omega)
  · rw [lk _ (by omega)]; exact ha x hx 6 (by omega)

end Go.Proofs.Ytjmbadadelelfaa.Ph

namespace Go.Proofs.Ytjmbadadelelfaa.Ph
open Go.RowKit Go.Lib

theorem take_snoc {R : List Item} {j : Nat} {it : Item} (h : R[j]? = some it) : R.take (j + 1) = R.take j ++ [it] := by rw [List.take_add_one, h]; rfl
def idsL (R : List Item) : List Int := R.map (fun it => (it.1 : Int))
theorem idsL_take {R : List Item} {j : Nat} {it : Item} (h : R[j]? = some it) : idsL (R.take (j + 1)) = idsL (R.take j) ++ [(it.1 : Int)] := by
  rw [take_snoc h]; unfold idsL; rw [List.map_append]; rfl
theorem idsL_len (R : List Item) : (idsL R).length = R.length := by unfold idsL; simp
def lenOf : Value → Nat
  | .slice _ n _ => n
  | _ => 0
/-- What List's loop keeps: the ids that were taken, what the copy holds yet, and what the last Take told. -/
def LSt (wr : World) (base b g n : Nat) (L : List Item) (o id ok : Value) : Prop :=
  ∃ (pre rest : List Item), IL wr base o (idsL pre) ∧ IsH wr b g n rest ∧
    ((ok = .bool false ∧ rest = [] ∧ L = pre ∧ id = .int .i64 0) ∨ (ok = .bool true ∧ ∃ x : Item, L = pre ++ x :: rest ∧ id = .int .i64 (x.1 : Int)))
theorem htake_any {w : World} {b g n : Nat} {rest : List Item} (h : IsH w b g n rest) :
    Calls Try.prog 29 #[.pointer (some ⟨b, 0, none⟩)] w fun e w' => ∃ id ok, e = .returned (.tuple #[.int .i64 id, .bool ok]) ∧ Only b g w w' ∧ ((ok = false ∧ rest = [] ∧ id = 0 ∧ IsH w' b g n []) ∨ (ok = true ∧ ∃ (x : Item) (rest' : List Item), rest = x :: rest' ∧ id = (x.1 : Int) ∧ IsH w' b g n rest')) := by
  cases rest with
  | nil =>
    refine (htake_none h).mono ?_
    rintro e w' ⟨he, rfl⟩
    exact ⟨0, false, he, Only.refl _ _ _, .inl ⟨rfl, rfl, rfl, h⟩⟩
  | cons x rest =>
    refine (htake_ok h).mono ?_
    rintro e w' ⟨he, hh, ho⟩
    exact ⟨_, true, he, ho, .inr ⟨rfl, x, rest, rfl, rfl, hh⟩⟩

end Go.Proofs.Ytjmbadadelelfaa.Ph
