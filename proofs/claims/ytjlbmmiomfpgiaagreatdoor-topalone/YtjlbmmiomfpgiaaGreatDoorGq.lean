/- YtjlbmmiomfpgiaaGreatDoorGq: of the texts Ba13 Ba14 Ba15 Ba16 Ba17 Ba18 Ba19 Ba20 Ba21 Ba22 Ba23 Ba24 Ba25 Ba26 Ba28 what is wanted. -/
import Derived.Test.YtjlbmmiomfpgiaaGreatDoorG0
import Derived.Test.YtjlbmmiomfpgiaaGreatDoorGp
import Derived.OrdersHeld
import Derived.Defers
import Derived.Recover
import Derived.Laws.Pointers
namespace Go.Proofs.YtjlbmmiomfpgiaaGreatDoor
set_option maxRecDepth 100000
open Go.RowKit
set_option linter.unusedVariables false
set_option linter.unusedSimpArgs false
theorem step_append_ev {P : Program} (w : World) {ops : Array Oper} {o : Oper} {a : Act} {K : Act → World → Prop} {Q : Exit → Act → World → Prop} {E : Prop} (hgd : o.guard = none) (s x : Operand) (t : TypeId)
  (ho : o.op = .call { callee := .builtin .append, args := #[s, x], argTypes := #[t, t] })
  (base : Nat) (e : TypeId) (i : TypeInfo) (z : Value) (size bytes : Nat) (ht : P.underlying t = some (.slice e)) (hi : P.info? e = some i) (hz : i.zero = some z)
  (hsize : i.size = size) (hby : i.bytes = bytes) (hzs : z.cells.size = size) (hsz : 0 < size)
  (v : Value) (n : Nat) (xs : List Value) (hs : a.eval s = v) (hown : w.ownsRow base e size v n xs)
  (ad : Addr) (m c : Nat) (news : List Value) (hx : a.eval x = .slice (some ad) m c) (hl : news.length = m * size) (hnews : ∀ j u, news[j]? = some u → w.cell? (ad.add j) = some u) (h1 : ∀ u ∈ news, u.oneCell' = true)
  (h63 : n + m ≤ maxLen) (hbytes : (n + m) * bytes ≤ 140737488355328) (hbase : base ≤ w.heap.size)
  (h : ∀ v' w', w'.ownsRow base e size v' (n + m) (xs ++ news) → w.grownBy w' v.ownBlock → (v'.ownBlock = v.ownBlock ∨ v'.ownBlock = some w.heap.size) → K (a.put o.dst v') w') :
  if Region.wanted o (yielded ops a.tmps) = true then Oper.wp P o a w K Q else E := by
 have hw : Region.wanted o (yielded ops a.tmps) = true := by simp [Region.wanted, hgd]
 rw [if_pos hw]
 obtain ⟨v', w', hr, h2, h3, h4, h5⟩ := run_append_own_at (P := P) w base t o.type e i z size bytes ht hi hz hsize hby hzs hsz v n xs hown ad m c news hl hnews h1 h63 hbytes hbase
 unfold Oper.wp execOp
 simp only [ho, resolve, invoke, builtin, Sem.run_bind, Sem.run_pure, Result.andThen_ok, List.map_toArray, List.map_cons, List.map_nil, hs, hx, hr]
 exact h v' w' h2 h3 h5
structure Sp (w W : World) (lab labk : Nat → Nat) (a : Ad) (P n q T : Nat) (M : Mc) (sb pr : Nat) (l : List Ev) (v : Value) : Prop where
 at_ : At w W lab labk a P n q T M
 c0 : W.cell? ⟨sb, 0, none⟩ = some (.pointer (some ⟨a.m, 0, none⟩))
 c1 : W.cell? ⟨sb, 1, none⟩ = some (.int .i64 (pr : Int))
 c2 : W.cell? ⟨sb, 2, none⟩ = some (.pointer (some ⟨a.pr, pr * 3, none⟩))
 c3 : W.cell? ⟨sb, 3, none⟩ = some v
 hv : EvL W w.heap.size v l
 hk : ∀ k, v.ownBlock = some k → labk k = 0 ∧ k ≠ sb
 fz : ∀ o, W.frozen? ⟨sb, o, none⟩ = false
 ls : labk sb = 0
 ws : w.heap.size ≤ sb
section
variable {w W W' : World} {lab labk : Nat → Nat} {a : Ad} {P n q T T' : Nat} {M M' : Mc} {sb pr : Nat} {l : List Ev}
theorem EvL.lt {base : Nat} {v : Value} (h : EvL W base v l) {k : Nat} (hk : v.ownBlock = some k) : k < W.heap.size ∧ base ≤ k := by
 obtain ⟨h1, ⟨hv, _⟩ | ⟨g, cap, cells, hv, h3, h4, h5⟩⟩ := h
 ·rw [hv] at hk; cases hk
 ·rw [hv] at hk
  injection hk with hk
  rw [← hk]
  exact ⟨(Array.getElem?_eq_some_iff.1 h4).1, h3⟩
variable {v : Value} {O O0 : Nat → Prop} {W0 : World}
theorem Sp.lt (h : Sp w W lab labk a P n q T M sb pr l v) : sb < W.heap.size := World.block_lt_of_cell? W _ h.c0
theorem Sp.keep (h : Sp w W lab labk a P n q T M sb pr l v) {lab' : Nat → Nat} (A : At w W' lab lab' a P n q T' M') (ho : ∀ b, b < W.heap.size → lab' b = labk b) (hb : ∀ b, b < W.heap.size → labk b = 0 → W'.heap[b]? = W.heap[b]?) : Sp w W' lab lab' a P n q T' M' sb pr l v := by
 have e := hb sb h.lt h.ls
 have ec : ∀ o, W'.cell? ⟨sb, o, none⟩ = W.cell? ⟨sb, o, none⟩ := fun _ => World.cell?_of_block e
 exact ⟨A, (ec _).trans h.c0, (ec _).trans h.c1, (ec _).trans h.c2, (ec _).trans h.c3, row_keptF h.hv (fun k q => hb k (h.hv.lt q).1 (h.hk k q).1), fun k q => ⟨(ho k (h.hv.lt q).1).trans (h.hk k q).1, (h.hk k q).2⟩, fun o => (World.frozen?_of_block e).trans (h.fz o), (ho sb h.lt).trans h.ls, h.ws⟩
theorem Sp.below (h : Sp w W lab labk a P n q T M sb pr l v) (hb : Below W.heap.size W W') : Sp w W' lab labk a P n q T M sb pr l v :=
 h.keep (h.at_.below hb) (fun _ _ => rfl) (fun b hlt _ => hb.block b hlt)
def SG (w W : World) (lab : Nat → Nat) (a : Ad) (P n q T : Nat) (M : Mc) (sb pr : Nat) (l : List Ev) (O : Nat → Prop) : Prop := ∃ labk v, Sp w W lab labk a P n q T M sb pr l v ∧ ∀ k, O k ↔ (labk k ≠ 0 ∨ k = sb ∨ v.ownBlock = some k)
def SX (w W0 W : World) (lab : Nat → Nat) (a : Ad) (P n q T : Nat) (M : Mc) (sb pr : Nat) (l : List Ev) (O0 : Nat → Prop) : Prop := ∃ O, SG w W lab a P n q T M sb pr l O ∧ Fr O0 W0 W ∧ ∀ k, k < W0.heap.size → O k → O0 k
theorem SG.sx (h : SG w W lab a P n q T M sb pr l O) : SX w W W lab a P n q T M sb pr l O := ⟨O, h, Fr.refl _ _, fun _ _ q => q⟩
theorem SG.below (h : SG w W lab a P n q T M sb pr l O) (hb : Below W.heap.size W W') : SG w W' lab a P n q T M sb pr l O := by
 obtain ⟨k, v, s, ho⟩ := h
 exact ⟨k, v, s.below hb, ho⟩
theorem SG.lt (h : SG w W lab a P n q T M sb pr l O) {k : Nat} (hk : O k) : k < W.heap.size := by
 obtain ⟨k', v, s, ho⟩ := h
 rcases (ho k).1 hk with q | q | q
 ·exact s.at_.i.lt k q
 ·rw [q]; exact s.lt
 ·exact (s.hv.lt q).1
theorem SX.call (h : SX w W0 W lab a P n q T M sb pr l O0) {f : Nat} {args : Array Value} {R : Ending → Prop} {l' : List Ev} (hc : ∀ O, SG w W lab a P n q T M sb pr l O → Calls Tryz.prog f args W fun e w' => R e ∧ SX w W w' lab a P n q T' M' sb pr l' O) : Calls Tryz.prog f args W fun e w' => R e ∧ SX w W0 w' lab a P n q T' M' sb pr l' O0 := by
 obtain ⟨O, hs, hf, ho⟩ := h
 refine (hc O hs).mono ?_
 rintro e w' ⟨hr, O2, hs2, hf2, ho2⟩
 exact ⟨hr, O2, hs2, hf.then hf2 (fun k hk q => ho k hk q), fun k hk q => ho k hk (ho2 k (Nat.lt_of_lt_of_le hk hf.size) q)⟩
theorem SG.goes (h : SG w W lab a P n q T M sb pr l O) (g : ∀ labk, IsMc W labk a P n q T M → Goes W W' labk a P n q T' M') : SX w W W' lab a P n q T' M' sb pr l O := by
 obtain ⟨k, v, s, ho⟩ := h
 obtain ⟨lab', A, hl, hf⟩ := s.at_.step (g k s.at_.i)
 refine ⟨_, ⟨lab', v, s.keep A hl (fun b hb hl => hf.box hl hb), fun _ => Iff.rfl⟩, hf.to (fun k _ q => (ho k).2 (.inl q)), fun k hk q => (ho k).2 ?_⟩
 rcases q with q | q
 ·exact .inl (by rw [← hl k hk]; exact q)
 ·exact .inr q
theorem SG.lift (h : SG w W lab a P n q T M sb pr l O) {f : Nat} {args : Array Value} {R : Ending → Prop} (hc : ∀ labk, IsMc W labk a P n q T M → Calls Tryz.prog f args W fun e w' => R e ∧ Goes W w' labk a P n q T' M') : Calls Tryz.prog f args W fun e w' => R e ∧ SX w W w' lab a P n q T' M' sb pr l O := by
 obtain ⟨k, v, s, ho⟩ := id h
 refine (hc k s.at_.i).mono ?_
 rintro e w' ⟨hr, g⟩
 refine ⟨hr, ?_⟩
 obtain ⟨lab', A, hl, hf⟩ := s.at_.step g
 refine ⟨_, ⟨lab', v, s.keep A hl (fun b hb hl => hf.box hl hb), fun _ => Iff.rfl⟩, hf.to (fun k _ q => (ho k).2 (.inl q)), fun k hk q => (ho k).2 ?_⟩
 rcases q with q | q
 ·exact .inl (by rw [← hl k hk]; exact q)
 ·exact .inr q
theorem SX.lift (h : SX w W0 W lab a P n q T M sb pr l O0) {f : Nat} {args : Array Value} {R : Ending → Prop} (hc : ∀ labk, IsMc W labk a P n q T M → Calls Tryz.prog f args W fun e w' => R e ∧ Goes W w' labk a P n q T' M') : Calls Tryz.prog f args W fun e w' => R e ∧ SX w W0 w' lab a P n q T' M' sb pr l O0 := h.call fun _ s => s.lift hc
theorem SX.goes (h : SX w W0 W lab a P n q T M sb pr l O0) (g : ∀ labk, IsMc W labk a P n q T M → Goes W W' labk a P n q T' M') : SX w W0 W' lab a P n q T' M' sb pr l O0 := by
 obtain ⟨O, hs, hf, ho⟩ := h
 obtain ⟨O2, hs2, hf2, ho2⟩ := hs.goes g
 exact ⟨O2, hs2, hf.then hf2 (fun k hk q => ho k hk q), fun k hk q => ho k hk (ho2 k (Nat.lt_of_lt_of_le hk hf.size) q)⟩
theorem SX.more (h : SX w W0 W lab a P n q T M sb pr l O0) (hb : Below W.heap.size W W') : SX w W0 W' lab a P n q T M sb pr l O0 := by
 obtain ⟨O, hs, hf, ho⟩ := h
 exact ⟨O, hs.below hb, hf.then (ofBelow (S := fun _ => False) hb) (fun _ _ q => q.elim), ho⟩
theorem SX.ahead {W1 : World} (h : SX w W1 W lab a P n q T M sb pr l O0) (hb : Below W0.heap.size W0 W1) : SX w W0 W lab a P n q T M sb pr l O0 := by
 obtain ⟨O, hs, hf, ho⟩ := h
 exact ⟨O, hs, (ofBelow hb).then hf (fun _ _ q => q), fun k hk q => ho k (Nat.lt_of_lt_of_le hk hb.size) q⟩
theorem SX.liftB (h : SX w W0 W lab a P n q T M sb pr l O0) {f : Nat} {args : Array Value} {R : Ending → Prop} (hc : ∀ labk, IsMc W labk a P n q T M → Calls Tryz.prog f args W fun e w' => R e ∧ Below W.heap.size W w') : Calls Tryz.prog f args W fun e w' => R e ∧ SX w W0 w' lab a P n q T M sb pr l O0 := by
 obtain ⟨O, ⟨k, v, s, _⟩, _, _⟩ := id h
 exact (hc k s.at_.i).mono (fun _ _ ⟨e, g⟩ => ⟨e, h.more g⟩)
theorem SX.like (h : SX w W0 W lab a P n q T M sb pr l O0) (e1 : W'.heap = W.heap) (e2 : W'.os = W.os) (e3 : W'.tape = W.tape) (e4 : W'.output = W.output) : SX w W0 W' lab a P n q T M sb pr l O0 :=
 h.more (below_post (Below.refl _ _) e1 e2 e3 e4)
theorem SX.keep (h : SX w W0 W lab a P n q T M sb pr l O0) {b o : Nat} {u : Value} (hb : ¬ O0 b) (c : W0.cell? ⟨b, o, none⟩ = some u) : W.cell? ⟨b, o, none⟩ = some u := by
 obtain ⟨O, hs, hf, ho⟩ := h
 exact (hf.cellAt (World.block_lt_of_cell? W0 _ c) hb).trans c
theorem SX.sp (h : SX w W0 W lab a P n q T M sb pr l O0) : ∃ labk v, Sp w W lab labk a P n q T M sb pr l v := by
 obtain ⟨O, ⟨k, v, s, _⟩, _, _⟩ := h
 exact ⟨k, v, s⟩
theorem SX.c0 (h : SX w W0 W lab a P n q T M sb pr l O0) : W.cell? ⟨sb, 0, none⟩ = some (.pointer (some ⟨a.m, 0, none⟩)) := by obtain ⟨k, v, s⟩ := h.sp; exact s.c0
theorem SX.c1 (h : SX w W0 W lab a P n q T M sb pr l O0) : W.cell? ⟨sb, 1, none⟩ = some (.int .i64 (pr : Int)) := by obtain ⟨k, v, s⟩ := h.sp; exact s.c1
theorem SX.c2 (h : SX w W0 W lab a P n q T M sb pr l O0) : W.cell? ⟨sb, 2, none⟩ = some (.pointer (some ⟨a.pr, pr * 3, none⟩)) := by obtain ⟨k, v, s⟩ := h.sp; exact s.c2
theorem SX.i (h : SX w W0 W lab a P n q T M sb pr l O0) : ∃ labk, IsMc W labk a P n q T M := by obtain ⟨k, v, s⟩ := h.sp; exact ⟨k, s.at_.i⟩
theorem SX.core (h : SX w W0 W lab a P n q T M sb pr l O0) : Core W a P n M.qu M.ag := by obtain ⟨k, i⟩ := h.i; exact i.co
theorem SX.pc (h : SX w W0 W lab a P n q T M sb pr l O0) (hp : pr < P) : PcAt W a.pr (pr * 3) (M.pc pr) := by obtain ⟨k, i⟩ := h.i; exact i.pc.at_ pr hp
theorem SX.pfz (h : SX w W0 W lab a P n q T M sb pr l O0) (o : Nat) : W.frozen? ⟨a.pr, o, none⟩ = false := by obtain ⟨k, i⟩ := h.i; exact i.pc.fz o
theorem SX.tr (h : SX w W0 W lab a P n q T M sb pr l O0) {x : Nat} (hx : x < n) : TrAt W a.th (x * 10) (M.th x) := by obtain ⟨k, i⟩ := h.i; exact i.th.at_ x hx
theorem SX.tok (h : SX w W0 W lab a P n q T M sb pr l O0) {x : Nat} (hx : x < n) : (M.th x).ok := by obtain ⟨k, i⟩ := h.i; exact i.th.ok x hx
theorem SX.tfz (h : SX w W0 W lab a P n q T M sb pr l O0) (o : Nat) : W.frozen? ⟨a.th, o, none⟩ = false := by obtain ⟨k, i⟩ := h.i; exact i.th.fz o
theorem infoEv : (Tryz.prog.info? 75).map (fun i => (i.zero, i.size, i.bytes)) = some (some (.agg #[.int .i64 0, .int .i64 0, .int .i64 0, .int .u32 0, .int .i64 0, .int .i64 0]), 6, 48) := by kernel_rfl
theorem evOne_one (v : Ev) : ∀ u ∈ evOne v, u.oneCell' = true := by
 intro u hu
 simp [evOne] at hu
 rcases hu with rfl | rfl | rfl | rfl | rfl | rfl <;> rfl
theorem evCells_snoc (l : List Ev) (v : Ev) : evCells (l ++ [v]) = evCells l ++ evOne v := by simp [evCells]
theorem Sp.told (h : Sp w W lab labk a P n q T M sb pr l v) {v1 : Value} {w1 : World} {ev : Ev} (ho : w1.ownsRow w.heap.size 75 6 v1 (l.length + 1) (evCells l ++ evOne ev)) (hg : W.grownBy w1 v.ownBlock) (hat : v1.ownBlock = v.ownBlock ∨ v1.ownBlock = some W.heap.size) : (∀ O, (∀ k, O k ↔ (labk k ≠ 0 ∨ k = sb ∨ v.ownBlock = some k)) → SX w W (w1.setCell ⟨sb, 3, none⟩ v1) lab a P n q T M sb pr (l ++ [ev]) O) ∧ w1.cell? ⟨sb, 3, none⟩ = some v ∧ w1.frozen? ⟨sb, 3, none⟩ = false := by
 have c3 := h.c3
 have hv := h.hv
 have hk := h.hk
 have hbl : ∀ b, b < W.heap.size → v.ownBlock ≠ some b → w1.heap[b]? = W.heap[b]? := fun b hb hn => hg.block b hb (fun e => hn e.symm)
 have hsb := hbl sb h.lt (fun e => (hk sb e).2 rfl)
 have hset : ∀ b, b ≠ sb → (w1.setCell ⟨sb, 3, none⟩ v1).heap[b]? = w1.heap[b]? := fun b hb => Below.heap_setCell _ _ _ _ hb
 have hf1 : Fr (fun k => labk k = 0 ∧ w.heap.size ≤ k) W (w1.setCell ⟨sb, 3, none⟩ v1) := by
  refine ⟨hg.os, hg.tape, hg.output, by simpa using hg.size, fun k hkl hn => ?_⟩
  have h1 : k ≠ sb := fun e => hn (by rw [e]; exact ⟨h.ls, h.ws⟩)
  rw [hset k h1]
  exact hbl k hkl (fun e => hn ⟨(hk k e).1, (hv.lt e).2⟩)
 have hz := h.at_.z
 have hi : IsMc (w1.setCell ⟨sb, 3, none⟩ v1) labk a P n q T M := h.at_.i.frame hf1 (fun k hk q => hk q.1) (fun q => by omega)
 have A : At w (w1.setCell ⟨sb, 3, none⟩ v1) lab labk a P n q T M := ⟨hi, ⟨h.at_.l.old, hi.lt⟩, h.at_.f.then hf1 (fun k hk q => by omega), hz⟩
 have ec : ∀ o, o ≠ 3 → (w1.setCell ⟨sb, 3, none⟩ v1).cell? ⟨sb, o, none⟩ = W.cell? ⟨sb, o, none⟩ := fun o ho => (cfar w1 (fun e => ho e.symm)).trans (World.cell?_of_block hsb)
 have c31 : w1.cell? ⟨sb, 3, none⟩ = some v := (World.cell?_of_block hsb).trans c3
 have f31 : ∀ o, w1.frozen? ⟨sb, o, none⟩ = false := fun o => (World.frozen?_of_block hsb).trans (h.fz o)
 have hne : ∀ k, v1.ownBlock = some k → labk k = 0 ∧ k ≠ sb := fun k e => by
  rcases hat with q | q
  ·exact hk k (q ▸ e)
  ·rw [q] at e
   injection e with e
   rw [← e]
   exact ⟨h.at_.fresh (Nat.le_refl _), by have := h.lt; omega⟩
 have hev : EvL (w1.setCell ⟨sb, 3, none⟩ v1) w.heap.size v1 (l ++ [ev]) := by
  unfold EvL
  rw [evCells_snoc, List.length_append]
  exact row_keptF ho (fun k e => hset k (hne k e).2)
 have hF : Fr (fun k => k = sb ∨ v.ownBlock = some k) W (w1.setCell ⟨sb, 3, none⟩ v1) := by
  refine ⟨hg.os, hg.tape, hg.output, by simpa using hg.size, fun k hkl hn => ?_⟩
  rw [hset k (fun e => hn (.inl e))]
  exact hbl k hkl (fun e => hn (.inr e))
 refine ⟨fun O hO => ⟨_, ⟨labk, v1, ⟨A, (ec 0 (by decide)).trans h.c0, (ec 1 (by decide)).trans h.c1, (ec 2 (by decide)).trans h.c2, Gt.set_same _ _ _ _ c31, hev, hne, fun o => by rw [frozen_set]; exact f31 o, h.ls, h.ws⟩, fun _ => Iff.rfl⟩, hF.to (fun k _ q => (hO k).2 (.inr q)), fun k hk q => (hO k).2 ?_⟩, c31, f31 3⟩
 rcases q with q | q | q
 ·exact .inl q
 ·exact .inr (.inl q)
 ·rcases hat with e | e
  ·exact .inr (.inr (e ▸ q))
  ·rw [e] at q
   injection q with q
   omega
end
end Go.Proofs.YtjlbmmiomfpgiaaGreatDoor
namespace Go.Proofs.YtjlbmmiomfpgiaaGreatDoor
set_option maxRecDepth 100000
open Go.RowKit
set_option linter.unusedVariables false
set_option linter.unusedSimpArgs false
section
variable {w W W' : World} {lab labk : Nat → Nat} {a : Ad} {P n q T T' : Nat} {M M' : Mc} {sb pr : Nat} {l : List Ev} {v : Value} {O O0 : Nat → Prop} {W0 : World}
set_option maxHeartbeats 4000000 in
theorem SG.tell (h : SG w W lab a P n q T M sb pr l O) (hl : l.length ≤ 10000) (kd : Int) (x : Int) (g : Nat) (ar : Int) :
  Calls Tryz.prog 120 #[.pointer (some ⟨sb, 0, none⟩), .int .i64 kd, .agg #[.int .i64 x, .int .u32 (g : Int)], .int .i64 ar] W fun e w' => e = .returned (.tuple #[]) ∧ SX w W w' lab a P n q T M sb pr (l ++ [⟨kd, (pr : Int), x, g, ar, 0⟩]) O := by
 obtain ⟨labk, v, hs, hO⟩ := h
 have hb0 : Below W.heap.size W (W.alloc (.cells #[.int .i64 x, .int .u32 (g : Int)] 51)) := (Below.refl _ _).alloc (Nat.le_refl _) _
 have s0 := hs.below hb0
 have k0 := newc W #[.int .i64 x, .int .u32 (g : Int)] 51 0 _ rfl
 have k1 := newc W #[.int .i64 x, .int .u32 (g : Int)] 51 1 _ rfl
 have hsib : ¬ sb = W.heap.size := by have := hs.lt; omega
 have hsib' : ¬ W.heap.size = sb := fun e => hsib e.symm
 have hlb : labk W.heap.size = 0 := hs.at_.fresh (Nat.le_refl _)
 have c3 := hs.c3
 have hv := hs.hv
 have hk := hs.hk
 have HB0 := veil hb0
 have hki : ∀ k, v.ownBlock = some k → k ≠ W.heap.size := fun k e => by have := (hv.lt e).1; omega
 replace c3 := kc hb0 c3
 replace hv := hv.below hb0
 clear hs hb0
 generalize hW : W.alloc (.cells #[.int .i64 x, .int .u32 (g : Int)] 51) = W0 at *
 have HW := veil hW
 clear hW
 have p1 := s0.c1
 obtain ⟨ad, cap, rfl⟩ := Cb.owns_slice hv
 obtain ⟨ev, hev⟩ : ∃ ev : Ev, (⟨kd, (pr : Int), x, g, ar, 0⟩ : Ev) = ev := ⟨_, rfl⟩
 have hb1 : Below W0.heap.size W0 (W0.alloc (.cells #[.int .i64 kd, .int .i64 (pr : Int), .int .i64 x, .int .u32 (g : Int), .int .i64 ar, .int .i64 0] 75)).drew := ((Below.refl _ W0).alloc (Nat.le_refl _) _).drew
 have s1 := s0.below hb1
 have q31 := kc hb1 c3
 have q1 := kc hb1 p1
 have m0 := kc hb1 k0
 have m1 := kc hb1 k1
 have HOW : Hid ((W0.alloc (.cells #[.int .i64 kd, .int .i64 (pr : Int), .int .i64 x, .int .u32 (g : Int), .int .i64 ar, .int .i64 0] 75)).drew.ownsRow w.heap.size 75 6 (.slice ad l.length cap) l.length (evCells l)) := s1.hv
 have HNW : Hid (∀ j u, (evOne ev)[j]? = some u → (W0.alloc (.cells #[.int .i64 kd, .int .i64 (pr : Int), .int .i64 x, .int .u32 (g : Int), .int .i64 ar, .int .i64 0] 75)).drew.cell? ((⟨W0.heap.size, 0, none⟩ : Addr).add j) = some u) := by
  rw [← hev]
  exact Cb.news_of (w1 := W0) (c := evOne ⟨kd, (pr : Int), x, g, ar, 0⟩) rfl
 have HBS : Hid (w.heap.size ≤ (W0.alloc (.cells #[.int .i64 kd, .int .i64 (pr : Int), .int .i64 x, .int .u32 (g : Int), .int .i64 ar, .int .i64 0] 75)).drew.heap.size) := s1.at_.f.size
 generalize hW1 : (W0.alloc (.cells #[.int .i64 kd, .int .i64 (pr : Int), .int .i64 x, .int .u32 (g : Int), .int .i64 ar, .int .i64 0] 75)).drew = W1 at *
 have HEND : Hid (∀ v1 w2, w2.ownsRow w.heap.size 75 6 v1 (l.length + 1) (evCells l ++ evOne ev) → W1.grownBy w2 (Value.slice ad l.length cap).ownBlock → (v1.ownBlock = (Value.slice ad l.length cap).ownBlock ∨ v1.ownBlock = some W1.heap.size) → (SX w W (w2.setCell ⟨sb, 3, none⟩ v1) lab a P n q T M sb pr (l ++ [ev]) O ∧ w2.cell? ⟨sb, 3, none⟩ = some (.slice ad l.length cap) ∧ w2.frozen? ⟨sb, 3, none⟩ = false) ∧ (w2.cell? ⟨sb, 1, none⟩ = some (.int .i64 (pr : Int)) ∧ w2.cell? ⟨W.heap.size, 0, none⟩ = some (.int .i64 x) ∧ w2.cell? ⟨W.heap.size, 1, none⟩ = some (.int .u32 (g : Int)))) := fun v1 w2 ho hg hat => by
  refine ⟨⟨((s1.told ho hg hat).1 O hO).ahead (bt HB0.out hb1), (s1.told ho hg hat).2⟩, ?_⟩
  have hbl : ∀ b, b < W1.heap.size → (Value.slice ad l.length cap).ownBlock ≠ some b → w2.heap[b]? = W1.heap[b]? := fun b hb hn => hg.block b hb (fun e => hn e.symm)
  have e1 := hbl sb s1.lt (fun e => (hk sb e).2 rfl)
  have e2 := hbl W.heap.size (World.block_lt_of_cell? W1 _ m0) (fun e => hki W.heap.size e rfl)
  exact ⟨(World.cell?_of_block e1).trans q1, (World.cell?_of_block e2).trans m0, (World.cell?_of_block e2).trans m1⟩
 have HW1 := veil hW1
 have HEV := veil hev
 clear hW1 hev
 obtain ⟨i0, hi0, hz0, hz1, hz2⟩ := Cb.info_parts infoEv
 clear hv hk hki s0 s1 hb1 hO HB0
 go_enter Tryz.func120, Tryz.ntmps120
 go_wp2
 rw [HW.out]
 refine wp_region_held_drew (S := (fun w' => w'.cell? ⟨sb, 1, none⟩ = some (.int .i64 (pr : Int)) ∧ w'.cell? ⟨W.heap.size, 0, none⟩ = some (.int .i64 x) ∧ w'.cell? ⟨W.heap.size, 1, none⟩ = some (.int .u32 (g : Int)))) (by kernel_rfl) ?_ (fun hHeld => ?_)
 ·exact ⟨p1, k0, k1⟩
 refine tkX 0 (v := ?_) rfl ?v0 ?_
 case v0 => (intro w hSw; (try dsimp only at hSw); obtain ⟨hSa, hSb, hSc⟩ := hSw; go_simp; try with_reducible rfl)
 try simp only [puX]
 refine tkX 1 (v := ?_) rfl ?v1 ?_
 case v1 => (intro w hSw; (try dsimp only at hSw); obtain ⟨hSa, hSb, hSc⟩ := hSw; go_simp; try with_reducible rfl)
 try simp only [puX]
 refine tkX 2 (v := ?_) rfl ?v2 ?_
 case v2 => (intro w hSw; (try dsimp only at hSw); obtain ⟨hSa, hSb, hSc⟩ := hSw; go_simp; try with_reducible rfl)
 try simp only [puX]
 refine tkX 3 (v := ?_) rfl ?v3 ?_
 case v3 => (intro w hSw; (try dsimp only at hSw); obtain ⟨hSa, hSb, hSc⟩ := hSw; go_simp; try with_reducible rfl)
 try simp only [puX]
 refine tkX 5 (v := ?_) rfl ?v5 ?_
 case v5 => (intro w hSw; (try dsimp only at hSw); obtain ⟨hSa, hSb, hSc⟩ := hSw; go_simp; try with_reducible rfl)
 try simp only [puX]
 refine tkX 6 (v := ?_) rfl ?v6 ?_
 case v6 => (intro w hSw; (try dsimp only at hSw); obtain ⟨hSa, hSb, hSc⟩ := hSw; go_simp; try with_reducible rfl)
 try simp only [puX]
 refine tkX 7 (v := ?_) rfl ?v7 ?_
 case v7 => (intro w hSw; (try dsimp only at hSw); obtain ⟨hSa, hSb, hSc⟩ := hSw; go_simp; try with_reducible rfl)
 try simp only [puX]
 refine tkX 8 (v := ?_) rfl ?v8 ?_
 case v8 => (intro w hSw; (try dsimp only at hSw); obtain ⟨hSa, hSb, hSc⟩ := hSw; go_simp; try with_reducible rfl)
 try simp only [puX]
 refine tkX 9 (v := ?_) rfl ?v9 ?_
 case v9 => (intro w hSw; (try dsimp only at hSw); obtain ⟨hSa, hSb, hSc⟩ := hSw; go_simp; try with_reducible rfl)
 try simp only [puX]
 refine tkX 10 (v := ?_) rfl ?v10 ?_
 case v10 => (intro w hSw; (try dsimp only at hSw); obtain ⟨hSa, hSb, hSc⟩ := hSw; go_simp; try with_reducible rfl)
 try simp only [puX]
 refine tkX 11 (v := ?_) rfl ?v11 ?_
 case v11 => (intro w hSw; (try dsimp only at hSw); obtain ⟨hSa, hSb, hSc⟩ := hSw; go_simp; try with_reducible rfl)
 try simp only [puX]
 refine tkX 12 (v := ?_) rfl ?v12 ?_
 case v12 => (intro w hSw; (try dsimp only at hSw); obtain ⟨hSa, hSb, hSc⟩ := hSw; go_simp; try with_reducible rfl)
 try simp only [puX]
 refine wpAnyH_ready (rs := [4, 13]) (by kernel_rfl) (by simp) ?_
 refine AllReadyH.cons rfl (fun K hK => ?_) (AllReadyH.cons rfl (fun K hK => ?_) AllReadyH.nil)
 ·skip
  go_simp
  refine hK.out _ _ ?_ (fun hHeld => ?_)
  ·exact hHeld
  clear hK K
  try simp only [puX]
  refine wpAnyH_ready (rs := [13]) (by kernel_rfl) (by simp) ?_
  refine AllReadyH.cons rfl (fun K hK => ?_) AllReadyH.nil
  go_simp
  rw [HW1.out]
  refine hK.out _ _ ?_ (fun hHeld => ?_)
  ·exact ⟨q1, m0, m1⟩
  clear hK K
  try simp only [puX]
  refine wpAnyH_ready (rs := [14]) (by kernel_rfl) (by simp) ?_
  refine AllReadyH.cons rfl (fun K hK => ?_) AllReadyH.nil
  refine step_append_ev _ (by rfl) _ _ _ (by rfl) w.heap.size 75 i0 (.agg #[.int .i64 0, .int .i64 0, .int .i64 0, .int .u32 0, .int .i64 0, .int .i64 0]) 6 48 Tryz.underlying38 hi0 hz0 hz1 hz2 rfl (by omega) (.slice ad l.length cap) l.length (evCells l) (by rfl) HOW.out ⟨W0.heap.size, 0, none⟩ 1 1 (evOne ev) (by rfl) rfl HNW.out (evOne_one _) (by unfold maxLen; omega) (by omega) HBS.out ?_
  intro v1 w2 ho1 hg1 hat1
  obtain ⟨⟨hsg, y1, y2⟩, hS2⟩ := HEND.out _ _ ho1 hg1 hat1
  obtain ⟨a1, d1, rfl⟩ := Cb.owns_slice ho1
  have HX := veil hsg
  clear hsg ho1 hg1 hat1
  refine hK.out _ _ ?_ (fun hHeld => ?_)
  ·exact hS2
  clear hK K
  try simp only [puX]
  refine tkX 15 (v := ?_) rfl ?v15 ?_
  case v15 => (intro w hSw; (try dsimp only at hSw); obtain ⟨hSa, hSb, hSc⟩ := hSw; go_simp; try with_reducible rfl)
  try simp only [puX]
  refine tkX 16 (v := ?_) rfl ?v16 ?_
  case v16 => (intro w hSw; (try dsimp only at hSw); obtain ⟨hSa, hSb, hSc⟩ := hSw; go_simp; try with_reducible rfl)
  try simp only [puX]
  refine wpAnyH_ready (rs := [17]) (by kernel_rfl) (by simp) ?_
  refine AllReadyH.cons rfl (fun K hK => ?_) AllReadyH.nil
  go_simp
  refine hK.out _ _ ?_ (fun hHeld => ?_)
  ·exact ⟨(cfar w2 (by decide)).trans hS2.1, (Gt.set_other _ _ _ _ _ _ (fun q => hsib q.1)).trans hS2.2.1, (Gt.set_other _ _ _ _ _ _ (fun q => hsib q.1)).trans hS2.2.2⟩
  clear hK K
  try simp only [puX]
  refine wpAnyH_done (by kernel_rfl) ?_ _
  go_wp2
  go_end0
  rw [HEV.out]
  exact ⟨rfl, HX.out⟩
 ·skip
  go_simp
  rw [HW1.out]
  refine hK.out _ _ ?_ (fun hHeld => ?_)
  ·exact ⟨q1, m0, m1⟩
  clear hK K
  try simp only [puX]
  refine wpAnyH_ready (rs := [4]) (by kernel_rfl) (by simp) ?_
  refine AllReadyH.cons rfl (fun K hK => ?_) AllReadyH.nil
  go_simp
  refine hK.out _ _ ?_ (fun hHeld => ?_)
  ·exact hHeld
  clear hK K
  try simp only [puX]
  refine wpAnyH_ready (rs := [14]) (by kernel_rfl) (by simp) ?_
  refine AllReadyH.cons rfl (fun K hK => ?_) AllReadyH.nil
  refine step_append_ev _ (by rfl) _ _ _ (by rfl) w.heap.size 75 i0 (.agg #[.int .i64 0, .int .i64 0, .int .i64 0, .int .u32 0, .int .i64 0, .int .i64 0]) 6 48 Tryz.underlying38 hi0 hz0 hz1 hz2 rfl (by omega) (.slice ad l.length cap) l.length (evCells l) (by rfl) HOW.out ⟨W0.heap.size, 0, none⟩ 1 1 (evOne ev) (by rfl) rfl HNW.out (evOne_one _) (by unfold maxLen; omega) (by omega) HBS.out ?_
  intro v1 w2 ho1 hg1 hat1
  obtain ⟨⟨hsg, y1, y2⟩, hS2⟩ := HEND.out _ _ ho1 hg1 hat1
  obtain ⟨a1, d1, rfl⟩ := Cb.owns_slice ho1
  have HX := veil hsg
  clear hsg ho1 hg1 hat1
  refine hK.out _ _ ?_ (fun hHeld => ?_)
  ·exact hS2
  clear hK K
  try simp only [puX]
  refine tkX 15 (v := ?_) rfl ?v15 ?_
  case v15 => (intro w hSw; (try dsimp only at hSw); obtain ⟨hSa, hSb, hSc⟩ := hSw; go_simp; try with_reducible rfl)
  try simp only [puX]
  refine tkX 16 (v := ?_) rfl ?v16 ?_
  case v16 => (intro w hSw; (try dsimp only at hSw); obtain ⟨hSa, hSb, hSc⟩ := hSw; go_simp; try with_reducible rfl)
  try simp only [puX]
  refine wpAnyH_ready (rs := [17]) (by kernel_rfl) (by simp) ?_
  refine AllReadyH.cons rfl (fun K hK => ?_) AllReadyH.nil
  go_simp
  refine hK.out _ _ ?_ (fun hHeld => ?_)
  ·exact ⟨(cfar w2 (by decide)).trans hS2.1, (Gt.set_other _ _ _ _ _ _ (fun q => hsib q.1)).trans hS2.2.1, (Gt.set_other _ _ _ _ _ _ (fun q => hsib q.1)).trans hS2.2.2⟩
  clear hK K
  try simp only [puX]
  refine wpAnyH_done (by kernel_rfl) ?_ _
  go_wp2
  go_end0
  rw [HEV.out]
  exact ⟨rfl, HX.out⟩
end
end Go.Proofs.YtjlbmmiomfpgiaaGreatDoor
namespace Go.Proofs.YtjlbmmiomfpgiaaGreatDoor
set_option maxRecDepth 100000
open Go.RowKit
set_option linter.unusedVariables false
set_option linter.unusedSimpArgs false
def pOver : List PanicEntry := [{ v := .iface 167 (.agg #[]), recovered := false }]
section
variable {w W W' : World} {lab labk : Nat → Nat} {a : Ad} {P n q T T' : Nat} {M M' : Mc} {sb pr : Nat} {l : List Ev} {O O0 : Nat → Prop} {W0 : World}
set_option maxHeartbeats 2000000 in
theorem SG.end_ (h : SG w W lab a P n q T M sb pr l O) (hl : l.length ≤ 10000) (kd : Int) (x : Int) (g : Nat) (ar : Int) :
  Calls Tryz.prog 123 #[.pointer (some ⟨sb, 0, none⟩), .int .i64 kd, .agg #[.int .i64 x, .int .u32 (g : Int)], .int .i64 ar] W fun e w' => e = .panicked pOver ∧ SX w W w' lab a P n q T M sb pr (l ++ [⟨kd, (pr : Int), x, g, ar, 0⟩]) O := by
 have hb0 : Below W.heap.size W (W.alloc (.cells #[.int .i64 x, .int .u32 (g : Int)] 51)) := (Below.refl _ _).alloc (Nat.le_refl _) _
 have HT := veil ((h.sx.more hb0).call (R := fun e => e = .returned (.tuple #[])) fun _ s => s.tell hl kd x g ar)
 clear h hb0
 unfold pOver
 go_enter Tryz.func123, Tryz.ntmps123
 go_wp2_with (first
  | (go_at_call 120; refine (HT.out).mono ?_; rintro e w1 ⟨rfl, hg⟩; have HG := veil hg; clear hg))
 simp [bodyPost]
 exact HG.out
theorem PcAt.far {b o : Nat} {x : Pc} (h : PcAt W b o x) {o' : Nat} (ho : o' < o ∨ o + 3 ≤ o') (u : Value) : PcAt (W.setCell ⟨b, o', none⟩ u) b o x :=
 ⟨(cfar W (by omega)).trans h.c0, (cfar W (by omega)).trans h.c1, (cfar W (by omega)).trans h.c2⟩
theorem PcAt.set_r {b o : Nat} {x : Pc} (h : PcAt W b o x) (r : Int) : PcAt (W.setCell ⟨b, o, none⟩ (.int .i64 r)) b o { x with r := r } :=
 ⟨Gt.set_same _ _ _ _ h.c0, (cfar W (by omega)).trans h.c1, (cfar W (by omega)).trans h.c2⟩
theorem PcAt.set_s {b o : Nat} {x : Pc} (h : PcAt W b o x) (r : Nat) : PcAt (W.setCell ⟨b, o + 1, none⟩ (.int .u64 (r : Int))) b o { x with s := r } :=
 ⟨(cfar W (by omega)).trans h.c0, Gt.set_same _ _ _ _ h.c1, (cfar W (by omega)).trans h.c2⟩
theorem PcAt.set_m {b o : Nat} {x : Pc} (h : PcAt W b o x) (r : Bool) : PcAt (W.setCell ⟨b, o + 2, none⟩ (.bool r)) b o { x with m := r } :=
 ⟨(cfar W (by omega)).trans h.c0, (cfar W (by omega)).trans h.c1, Gt.set_same _ _ _ _ h.c2⟩
theorem Pcs.put {b : Nat} {f : Nat → Pc} (h : Pcs W b P f) {x : Nat} {t : Pc} (ht : PcAt W' b (x * 3) t) (hok : t.s < 18446744073709551616) (hfar : ∀ j, j < P → j ≠ x → PcAt W' b (j * 3) (f j)) (hfz : ∀ o, W'.frozen? ⟨b, o, none⟩ = false) : Pcs W' b P (Gt.upd f x t) := by
 refine ⟨fun i hi => ?_, hfz, fun i hi => ?_⟩
 ·by_cases e : i = x
  ·rw [e, Gt.upd_same]; exact ht
  ·rw [Gt.upd_other _ _ _ _ e]; exact hfar i hi e
 ·by_cases e : i = x
  ·rw [e, Gt.upd_same]; exact hok
  ·rw [Gt.upd_other _ _ _ _ e]; exact h.ok i hi
theorem far3 {x j i : Nat} (h : j ≠ x) (hi : i < 3) : x * 3 + i < j * 3 ∨ j * 3 + 3 ≤ x * 3 + i := by omega
theorem SX.tell (h : SX w W0 W lab a P n q T M sb pr l O0) (hl : l.length ≤ 10000) (kd : Int) (x : Int) (g : Nat) (ar : Int) :
  Calls Tryz.prog 120 #[.pointer (some ⟨sb, 0, none⟩), .int .i64 kd, .agg #[.int .i64 x, .int .u32 (g : Int)], .int .i64 ar] W fun e w' => e = .returned (.tuple #[]) ∧ SX w W0 w' lab a P n q T M sb pr (l ++ [⟨kd, (pr : Int), x, g, ar, 0⟩]) O0 := h.call (R := fun e => e = .returned (.tuple #[])) fun _ s => s.tell hl kd x g ar
theorem SX.end_ (h : SX w W0 W lab a P n q T M sb pr l O0) (hl : l.length ≤ 10000) (kd : Int) (x : Int) (g : Nat) (ar : Int) :
  Calls Tryz.prog 123 #[.pointer (some ⟨sb, 0, none⟩), .int .i64 kd, .agg #[.int .i64 x, .int .u32 (g : Int)], .int .i64 ar] W fun e w' => e = .panicked pOver ∧ SX w W0 w' lab a P n q T M sb pr (l ++ [⟨kd, (pr : Int), x, g, ar, 0⟩]) O0 := h.call (R := fun e => e = .panicked pOver) fun _ s => s.end_ hl kd x g ar
end
end Go.Proofs.YtjlbmmiomfpgiaaGreatDoor
namespace Go.Proofs.YtjlbmmiomfpgiaaGreatDoor
set_option maxRecDepth 100000
open Go.RowKit
set_option linter.unusedVariables false
set_option linter.unusedSimpArgs false
section
variable {w W W' : World} {lab labk : Nat → Nat} {a : Ad} {P n q T T' : Nat} {M M' : Mc} {sb pr : Nat} {l : List Ev} {O O0 : Nat → Prop} {W0 : World}
set_option maxHeartbeats 4000000 in
theorem SG.ran_ok (h : SG w W lab a P n q T M sb pr l O) (hl : l.length ≤ 10000) (x : Nat) (hx : x < n) (op ar : Int) :
  Calls Tryz.prog 158 #[.pointer (some ⟨sb, 0, none⟩), .pointer (some ⟨a.th, x * 10, none⟩), .agg #[.int .i64 op, .int .i64 ar], .int .i64 0] W fun e w' => e = .returned (.tuple #[]) ∧ SX w W w' lab a P n q T M sb pr (l ++ [⟨5, (pr : Int), (M.th x).p, (M.th x).g, op, 0⟩]) O := by
 have hb0 : Below W.heap.size W (W.alloc (.cells #[.int .i64 op, .int .i64 ar] 64)) := (Below.refl _ _).alloc (Nat.le_refl _) _
 have h0 := (h.below hb0).sx
 have hno : ¬ O W.heap.size := fun q => by have := h.lt q; omega
 have HB0 := veil hb0
 have k0 := newc W #[.int .i64 op, .int .i64 ar] 64 0 _ rfl
 clear h hb0
 generalize hW : W.alloc (.cells #[.int .i64 op, .int .i64 ar] 64) = W0 at *
 have HW := veil hW
 clear hW
 obtain ⟨t, ht⟩ : ∃ t, M.th x = t := ⟨_, rfl⟩
 have d0 := (h0.tr hx).c0
 have d1 := (h0.tr hx).c1
 rw [ht] at d0 d1 ⊢
 have HT : Hid (∀ W1 (hb : Below W0.heap.size W0 W1), Calls Tryz.prog 120 #[.pointer (some ⟨sb, 0, none⟩), .int .i64 5, .agg #[.int .i64 t.p, .int .u32 (t.g : Int)], .int .i64 op] W1 fun e w' => e = .returned (.tuple #[]) ∧ SX w W0 w' lab a P n q T M sb pr (l ++ [⟨5, (pr : Int), t.p, t.g, op, 0⟩]) O ∧ (w'.cell? ⟨W.heap.size, 0, none⟩ = some (.int .i64 op) ∧ w'.cell? ⟨a.th, x * 10, none⟩ = some (.int .i64 t.p) ∧ w'.cell? ⟨a.th, x * 10 + 1, none⟩ = some (.int .u32 (t.g : Int)))) := fun W1 hb => by
  refine ((h0.more hb).tell hl 5 t.p t.g op).mono ?_
  rintro e w' ⟨rfl, hg⟩
  have e0 := (hg.tr hx).c0
  have e1 := (hg.tr hx).c1
  rw [ht] at e0 e1
  exact ⟨rfl, hg, hg.keep hno k0, e0, e1⟩
 have H0 := veil (Below.refl W0.heap.size W0)
 clear h0 ht
 go_enter Tryz.func158, Tryz.ntmps158
 go_wp2
 rw [HW.out]
 go_region_held3 (fun w' => w'.cell? ⟨W.heap.size, 0, none⟩ = some (.int .i64 op) ∧ w'.cell? ⟨a.th, x * 10, none⟩ = some (.int .i64 t.p) ∧ w'.cell? ⟨a.th, x * 10 + 1, none⟩ = some (.int .u32 (t.g : Int)))
  (first | exact HS1.out | go_keep)
  (first
   | (go_at_call 120; refine (HT.out _ (by exact bp H0.out rfl rfl rfl rfl)).mono ?_; rintro e w1 ⟨rfl, hg, hs1⟩; have HG := veil hg; have HS1 := veil hs1; clear hg hs1))
 go_wp2
 go_end0
 exact ⟨rfl, HG.out.ahead HB0.out⟩
end
end Go.Proofs.YtjlbmmiomfpgiaaGreatDoor
namespace Go.Proofs.YtjlbmmiomfpgiaaGreatDoor
set_option maxRecDepth 100000
open Go.RowKit
set_option linter.unusedVariables false
set_option linter.unusedSimpArgs false
structure KAt (W : World) (b : Nat) (k : Ke.K) : Prop where
 c0 : W.cell? ⟨b, 0, none⟩ = some (.bool k.e)
 c1 : W.cell? ⟨b, 1, none⟩ = some (.int .u64 k.d)
 c2 : W.cell? ⟨b, 2, none⟩ = some (.int .u8 k.l)
theorem KAt.new (W : World) (k : Ke.K) : KAt (W.alloc (.cells #[.bool k.e, .int .u64 k.d, .int .u8 k.l] 67)) W.heap.size k := ⟨newc _ _ _ 0 _ rfl, newc _ _ _ 1 _ rfl, newc _ _ _ 2 _ rfl⟩
theorem KeyN.put3 {W : World} {b : Nat} (r0 : W.cell? ⟨b, 0, none⟩ = some (.bool false)) (r1 : W.cell? ⟨b, 1, none⟩ = some (.int .u64 0)) (r2 : W.cell? ⟨b, 2, none⟩ = some (.int .u8 0)) (k : Ke.K) : KAt (((W.setCell ⟨b, 0, none⟩ (.bool k.e)).setCell ⟨b, 1, none⟩ (.int .u64 k.d)).setCell ⟨b, 2, none⟩ (.int .u8 k.l)) b k :=
 ⟨(cfar _ (by decide)).trans ((cfar _ (by decide)).trans (Gt.set_same _ _ _ _ r0)), (cfar _ (by decide)).trans (Gt.set_same _ _ _ _ ((cfar _ (by decide)).trans r1)), Gt.set_same _ _ _ _ ((cfar _ (by decide)).trans ((cfar _ (by decide)).trans r2))⟩
section
variable {w W W' : World} {lab labk : Nat → Nat} {a : Ad} {P n q T T' : Nat} {M M' : Mc} {sb pr : Nat} {l : List Ev} {O O0 : Nat → Prop} {W0 : World}
theorem IsMc.best (h : IsMc W labk a P n q T M) (p d : Int) (hd : 0 ≤ d ∧ d < 18446744073709551616) :
  Calls Tryz.prog 118 #[.pointer (some ⟨a.pb, 0, none⟩), .int .i64 p, .int .u64 d] W fun e w' => e = .returned (.tuple #[.int .i64 (bI (gh M.pl) (bb P (gh M.pl) p d)), .agg #[.bool (bK (gh M.pl) (bb P (gh M.pl) p d)).e, .int .u64 (bK (gh M.pl) (bb P (gh M.pl) p d)).d, .int .u8 (bK (gh M.pl) (bb P (gh M.pl) p d)).l], .int .i64 (bA (bb P (gh M.pl) p d)), .bool (bb P (gh M.pl) p d).isSome]) ∧ Below W.heap.size W w' := by
 obtain ⟨O, hp, hO⟩ := h.pl
 exact hp.best p d hd
theorem IsMc.take (h : IsMc W labk a P n q T M) (p d : Int) (hd : 0 ≤ d ∧ d < 18446744073709551616) :
  Calls Tryz.prog 122 #[.pointer (some ⟨a.pb, 0, none⟩), .int .i64 p, .int .u64 d] W fun e w' => e = .returned (.tuple #[.int .i64 (bI (gh M.pl) (bb P (gh M.pl) p d)), .agg #[.bool (bK (gh M.pl) (bb P (gh M.pl) p d)).e, .int .u64 (bK (gh M.pl) (bb P (gh M.pl) p d)).d, .int .u8 (bK (gh M.pl) (bb P (gh M.pl) p d)).l], .int .i64 (bA (bb P (gh M.pl) p d)), .bool (bb P (gh M.pl) p d).isSome]) ∧ Goes W w' labk a P n q (T + 1) { M with pl := ptkG P (gh M.pl) p d } := by
 obtain ⟨O, hp, hO⟩ := h.pl
 refine (hp.take p d hd).mono ?_
 rintro e w' ⟨rfl, hp', hf⟩
 have h8 : Fr (fun k => labk k = 8) W w' := hf.to (fun k _ hk => hO k hk)
 exact ⟨rfl, labk, h.toPl (h.same h8) h8 hp' hO, h.same h8, h8.to (fun k _ hk => by rw [hk]; decide)⟩
set_option maxHeartbeats 4000000 in
theorem SX.giveWay_not (h : SX w W0 W lab a P n q T M sb pr l O0) (hp : pr < P) (d : Int) (hd : 0 ≤ d ∧ d < 18446744073709551616) (hno : (M.pc pr).r = -1 ∨ (bb P (gh M.pl) (pr : Int) d).isSome = false) :
  Calls Tryz.prog 74 #[.pointer (some ⟨sb, 0, none⟩), .int .u64 d] W fun e w' => e = .returned (.tuple #[]) ∧ SX w W0 w' lab a P n q T M sb pr l O0 := by
 have HBS : Hid (∀ V, Below W.heap.size W V → Calls Tryz.prog 118 #[.pointer (some ⟨a.pb, 0, none⟩), .int .i64 (pr : Int), .int .u64 d] V fun e w' => e = .returned (.tuple #[.int .i64 (bI (gh M.pl) (bb P (gh M.pl) (pr : Int) d)), .agg #[.bool (bK (gh M.pl) (bb P (gh M.pl) (pr : Int) d)).e, .int .u64 (bK (gh M.pl) (bb P (gh M.pl) (pr : Int) d)).d, .int .u8 (bK (gh M.pl) (bb P (gh M.pl) (pr : Int) d)).l], .int .i64 (bA (bb P (gh M.pl) (pr : Int) d)), .bool (bb P (gh M.pl) (pr : Int) d).isSome]) ∧ Below W.heap.size W w' ∧ ∀ b, KeyN V b → KeyN w' b) := fun V hb => by
  obtain ⟨lk, i⟩ := (h.more hb).i
  exact (i.best (pr : Int) d hd).mono (fun _ _ ⟨e, b⟩ => ⟨e, bt hb b, fun _ k => k.kept b⟩)
 have HC : Hid (∀ V, Below W.heap.size W V → V.cell? ⟨sb, 0, none⟩ = some (.pointer (some ⟨a.m, 0, none⟩)) ∧ V.cell? ⟨sb, 1, none⟩ = some (.int .i64 (pr : Int)) ∧ V.cell? ⟨a.m, 8, none⟩ = some (.pointer (some ⟨a.pb, 0, none⟩))) := fun V hb => ⟨(h.more hb).c0, (h.more hb).c1, (h.more hb).core.c8⟩
 have HD : Hid (∀ V, Below W.heap.size W V → V.cell? ⟨sb, 2, none⟩ = some (.pointer (some ⟨a.pr, pr * 3, none⟩)) ∧ V.cell? ⟨a.pr, pr * 3, none⟩ = some (.int .i64 (M.pc pr).r) ∧ V.cell? ⟨a.pr, pr * 3 + 2, none⟩ = some (.bool (M.pc pr).m)) := fun V hb => ⟨(h.more hb).c2, ((h.more hb).pc hp).c0, ((h.more hb).pc hp).c2⟩
 have H0 := veil (Below.refl W.heap.size W)
 have HS := veil h
 obtain ⟨c0, c1, c8⟩ := HC.out _ H0.out
 have HKN := veil (KeyN.new W)
 have n1 : ¬ sb = W.heap.size := by have : sb < W.heap.size := World.block_lt_of_cell? W _ c0; omega
 have n2 : ¬ W.heap.size = sb := fun e => n1 e.symm
 have n3 : ¬ a.m = W.heap.size := by have : a.m < W.heap.size := World.block_lt_of_cell? W _ c8; omega
 have n4 : ¬ W.heap.size = a.m := fun e => n3 e.symm
 clear h
 generalize bI (gh M.pl) (bb P (gh M.pl) (pr : Int) d) = bi at *
 generalize bK (gh M.pl) (bb P (gh M.pl) (pr : Int) d) = bk at *
 generalize bA (bb P (gh M.pl) (pr : Int) d) = ba at *
 generalize (bb P (gh M.pl) (pr : Int) d).isSome = ok at *
 generalize (M.pc pr).r = r at *
 go_enter Tryz.func74, Tryz.ntmps74
 go_wp2
 go_region_held3 (fun w' => w'.cell? ⟨sb, 0, none⟩ = some (.pointer (some ⟨a.m, 0, none⟩)) ∧ w'.cell? ⟨sb, 1, none⟩ = some (.int .i64 (pr : Int)) ∧ w'.cell? ⟨a.m, 8, none⟩ = some (.pointer (some ⟨a.pb, 0, none⟩)))
  (first | exact HC.out _ HB1.out | exact HC.out _ (HB1.out.alloc HB1.out.size _) | go_keep)
  (first
   | (go_at_call 118; refine (HBS.out _ (by exact below_post H0.out rfl rfl rfl rfl)).mono ?_; rintro e w1 ⟨rfl, hg, hkn⟩; have HB1 := veil hg; clear hg hkn)
   | (go_at_call 118; refine (HBS.out _ (by exact below_post ((Below.refl W.heap.size W).alloc (Nat.le_refl _) _) rfl rfl rfl rfl)).mono ?_; rintro e w1 ⟨rfl, hg, hkn⟩; have HB1 := veil hg; obtain ⟨r0, r1, r2, f0, f1, f2⟩ := hkn _ (HKN.out.kept (by exact bp (Below.refl _ _) rfl rfl rfl rfl)); clear hg hkn))
 all_goals (rename_i hHeld; clear hHeld)
 all_goals first
  | (have HBc := veil (bset (bset (bset HB1.out (a := ⟨W.heap.size, 0, none⟩) (Nat.le_refl _) (.bool bk.e)) (a := ⟨W.heap.size, 1, none⟩) (Nat.le_refl _) (.int .u64 bk.d)) (a := ⟨W.heap.size, 2, none⟩) (Nat.le_refl _) (.int .u8 bk.l)); have HKA : Hid (KAt (((w1.setCell ⟨W.heap.size, 0, none⟩ (.bool bk.e)).setCell ⟨W.heap.size, 1, none⟩ (.int .u64 bk.d)).setCell ⟨W.heap.size, 2, none⟩ (.int .u8 bk.l)) W.heap.size bk) := (KeyN.put3 r0 r1 r2 bk); clear r0 r1 r2 f0 f1 f2 HB1; generalize ((w1.setCell ⟨W.heap.size, 0, none⟩ (.bool bk.e)).setCell ⟨W.heap.size, 1, none⟩ (.int .u64 bk.d)).setCell ⟨W.heap.size, 2, none⟩ (.int .u8 bk.l) = Wc at *; obtain ⟨kb, hkb⟩ : ∃ kb, W.heap.size = kb := ⟨_, rfl⟩; rw [hkb] at HKA)
  | (have HBc := veil (HB1.out.alloc HB1.out.size (.cells #[.bool bk.e, .int .u64 bk.d, .int .u8 bk.l] 67)); have HKA := veil (KAt.new w1 bk); clear HB1; generalize w1.alloc (.cells #[.bool bk.e, .int .u64 bk.d, .int .u8 bk.l] 67) = Wc at *; obtain ⟨kb, hkb⟩ : ∃ kb, w1.heap.size = kb := ⟨_, rfl⟩; rw [hkb] at HKA)
 all_goals rw [hkb]
 all_goals clear hkb c0 c1 c8 n1 n2 n3 n4
 all_goals obtain ⟨z2, z0, zm⟩ := HD.out _ HBc.out
 all_goals
  by_cases hr : r = -1
  ·subst hr
   go_wp2
   simp [bodyPost, results, Tryz.results74, go_sem]
   exact HS.out.more HBc.out
  ·have hok := hno.resolve_left hr
   subst hok
   have hrb : (r == -1) = false := by simp [hr]
   go_wp2
   simp [bodyPost, results, Tryz.results74, go_sem]
   exact HS.out.more HBc.out
end
end Go.Proofs.YtjlbmmiomfpgiaaGreatDoor
namespace Go.Proofs.YtjlbmmiomfpgiaaGreatDoor
set_option maxRecDepth 100000
open Go.RowKit
set_option linter.unusedVariables false
set_option linter.unusedSimpArgs false
section
variable {w W W' : World} {lab labk : Nat → Nat} {a : Ad} {P n q T T' : Nat} {M M' : Mc} {sb pr : Nat} {l l' : List Ev} {O O0 : Nat → Prop} {W0 : World}
theorem SG.setBox (h : SG w W lab a P n q T M sb pr l O) {b : Nat} (hb : ¬ O b) (hw : w.heap.size ≤ b) (o : Nat) (u : Value) : SG w (W.setCell ⟨b, o, none⟩ u) lab a P n q T M sb pr l O := by
 obtain ⟨k, v, s, ho⟩ := h
 have hl : k b = 0 := Classical.byContradiction fun q => hb ((ho b).2 (.inl q))
 have hsb : sb ≠ b := fun q => hb ((ho b).2 (.inr (.inl q.symm)))
 have hv : v.ownBlock ≠ some b := fun q => hb ((ho b).2 (.inr (.inr q)))
 have ec : ∀ o', (W.setCell ⟨b, o, none⟩ u).cell? ⟨sb, o', none⟩ = W.cell? ⟨sb, o', none⟩ := fun o' => Gt.set_other _ _ _ _ _ _ (fun q => hsb q.1.symm)
 exact ⟨k, v, ⟨s.at_.set hw hl o u, (ec _).trans s.c0, (ec _).trans s.c1, (ec _).trans s.c2, (ec _).trans s.c3, row_keptF s.hv (fun j q => Below.heap_setCell _ _ _ _ (fun e => hv (by have e' : j = b := e; rw [← e']; exact q))), s.hk, fun o' => by rw [frozen_set]; exact s.fz o', s.ls, s.ws⟩, ho⟩
theorem SX.base (h : SX w W0 W lab a P n q T M sb pr l O0) : ∃ O, SG w W lab a P n q T M sb pr l O ∧ ∀ (Wc : World) (T' : Nat) (M' : Mc) (l' : List Ev), SX w W Wc lab a P n q T' M' sb pr l' O → SX w W0 Wc lab a P n q T' M' sb pr l' O0 := by
 obtain ⟨O, hs, hf, ho⟩ := h
 refine ⟨O, hs, ?_⟩
 rintro Wc T' M' l' ⟨O2, hs2, hf2, ho2⟩
 exact ⟨O2, hs2, hf.then hf2 (fun k hk q => ho k hk q), fun k hk q => ho k hk (ho2 k (Nat.lt_of_lt_of_le hk hf.size) q)⟩
theorem SG.wl (h : SG w W lab a P n q T M sb pr l O) : w.heap.size ≤ W.heap.size := by
 obtain ⟨k, v, s, ho⟩ := h
 exact s.at_.f.size
noncomputable def tkM (P : Nat) (M : Mc) (pr : Nat) (d : Int) : Mc := { M with pl := ptkG P (gh M.pl) (pr : Int) d }
set_option maxHeartbeats 2000000 in
theorem SX.takeOne_runs (h : SX w W0 W lab a P n q T M sb pr l O0) (hp : pr < P) (d : Int) (hr : (M.pc pr).r ≠ -1) :
  Calls Tryz.prog 75 #[.pointer (some ⟨sb, 0, none⟩), .int .u64 d] W fun e w' => e = .returned (.tuple #[]) ∧ SX w W0 w' lab a P n q T M sb pr l O0 := by
 have c2 := h.c2
 have r0 := (h.pc hp).c0
 have hrb : ((M.pc pr).r != -1) = true := by simp [hr]
 have HS := veil h
 clear h
 generalize (M.pc pr).r = r at *
 go_enter Tryz.func75, Tryz.ntmps75
 go_wp2
 simp [bodyPost, results, Tryz.results75, go_sem]
 exact HS.out
end
end Go.Proofs.YtjlbmmiomfpgiaaGreatDoor
namespace Go.Proofs.YtjlbmmiomfpgiaaGreatDoor
set_option maxRecDepth 100000
open Go.RowKit
set_option linter.unusedVariables false
set_option linter.unusedSimpArgs false
section
variable {w W W' : World} {lab labk : Nat → Nat} {a : Ad} {P n q T T' : Nat} {M M' : Mc} {sb pr : Nat} {l l' : List Ev} {O O0 : Nat → Prop} {W0 : World}
theorem IsMc.setDisp (h : IsMc W labk a P n q T M) {x : Nat} (hx : x < n) (p : Int) (f : Nat) (hf : f < 256) :
  Goes W ((W.setCell ⟨a.th, x * 10 + 6, none⟩ (.int .i64 p)).setCell ⟨a.th, x * 10 + 4, none⟩ (.int .u8 (f : Int))) labk a P n q T { M with th := Gt.upd M.th x { M.th x with pc := p, lf := f } } := by
 have ok := h.th.ok x hx
 have hfr : Fr (fun k => labk k = 4) W ((W.setCell ⟨a.th, x * 10 + 6, none⟩ (.int .i64 p)).setCell ⟨a.th, x * 10 + 4, none⟩ (.int .u8 (f : Int))) := ((Fr.refl _ _).setCell (a := ⟨a.th, _, none⟩) h.lth _).setCell (a := ⟨a.th, _, none⟩) h.lth _
 refine ⟨labk, h.toTh (h.same hfr) hfr (h.th.put (((h.th.at_ x hx).set_pc p).set_lf f) ⟨ok.g, ok.lv, hf, ok.il, ok.sn⟩ (fun j hj hne => ((h.th.at_ j hj).far (far10 hne (by decide)) _).far (far10 hne (by decide)) _) (fun o => by rw [frozen_set, frozen_set]; exact h.th.fz o)), h.same hfr, hfr.to (fun k _ hk => by rw [hk]; decide)⟩
theorem IsMc.setProc (h : IsMc W labk a P n q T M) (hp : pr < P) (r : Int) (s : Nat) (hs : s < 18446744073709551616) (m : Bool) :
  Goes W (((W.setCell ⟨a.pr, pr * 3, none⟩ (.int .i64 r)).setCell ⟨a.pr, pr * 3 + 1, none⟩ (.int .u64 (s : Int))).setCell ⟨a.pr, pr * 3 + 2, none⟩ (.bool m)) labk a P n q T { M with pc := Gt.upd M.pc pr ⟨r, s, m⟩ } := by
 have h3 : Fr (fun k => labk k = 3) W (((W.setCell ⟨a.pr, pr * 3, none⟩ (.int .i64 r)).setCell ⟨a.pr, pr * 3 + 1, none⟩ (.int .u64 (s : Int))).setCell ⟨a.pr, pr * 3 + 2, none⟩ (.bool m)) := (((Fr.refl _ _).setCell (a := ⟨a.pr, _, none⟩) h.lpr _).setCell (a := ⟨a.pr, _, none⟩) h.lpr _).setCell (a := ⟨a.pr, _, none⟩) h.lpr _
 refine ⟨labk, h.toPc (h.same h3) h3 (h.pc.put ((((h.pc.at_ pr hp).set_r r).set_s s).set_m m) hs (fun j hj hne => (((h.pc.at_ j hj).far (far3 (i := 0) hne (by decide)) _).far (far3 hne (by decide)) _).far (far3 hne (by decide)) _) (fun o => by rw [frozen_set, frozen_set, frozen_set]; exact h.pc.fz o)), h.same h3, h3.to (fun k _ hk => by rw [hk]; decide)⟩
noncomputable def dispA (P n : Nat) (M : Mc) (pr x : Nat) (d : Int) : Mc := { tkM P M pr d with S := moveS n M.G M.S (M.th x).p (M.th x).g 2 }
noncomputable def dispB (P n : Nat) (M : Mc) (pr x : Nat) (d : Int) : Mc := { dispA P n M pr x d with th := Gt.upd M.th x { M.th x with pc := (pr : Int), lf := (agedOf M (M.th x)).toNat } }
noncomputable def dispM (P n : Nat) (M : Mc) (pr x : Nat) (d : Int) : Mc := { dispB P n M pr x d with pc := Gt.upd M.pc pr ⟨(x : Int), 0, false⟩ }
theorem buildPc (x : Int) (w : World) : (Instr.build 99 #[(0, .int .i64 x)]).run Tryz.prog w = .ok (.agg #[.int .i64 x, .int .u64 0, .bool false]) w := run_build w 99 _ _ (by kernel_rfl)
theorem aged_in (M : Mc) (t : Tr) (h : t.ok) : 0 ≤ agedOf M t ∧ agedOf M t < 256 := by
 have hl := h.lv
 unfold agedOf Ag.levN
 by_cases e : (M.ag : Int) = 0
 ·rw [if_pos e]; omega
 ·rw [if_neg e]
  have hs : 0 ≤ Ag.subN M.nw t.sn := by unfold Ag.subN; split <;> omega
  have hd : 0 ≤ Ag.subN M.nw t.sn / (M.ag : Int) := Int.ediv_nonneg hs (by omega)
  split <;> omega
set_option maxHeartbeats 8000000 in
theorem SX.takeOne_takes (h : SX w W0 W lab a P n q T M sb pr l O0) (hl : l.length ≤ 10000) (hp : pr < P) (d : Int) (hd : 0 ≤ d ∧ d < 18446744073709551616) (hr : (M.pc pr).r = -1) (hok : (bb P (gh M.pl) (pr : Int) d).isSome = true) (x : Nat) (hx : x < n) (hbi : bI (gh M.pl) (bb P (gh M.pl) (pr : Int) d) = (x : Int)) :
  Calls Tryz.prog 75 #[.pointer (some ⟨sb, 0, none⟩), .int .u64 d] W fun e w' => e = .panicked pOver ∧ SX w W0 w' lab a P n q (T + 1) (dispM P n M pr x d) sb pr (l ++ [⟨3, (pr : Int), (M.th x).p, (M.th x).g, bA (bb P (gh M.pl) (pr : Int) d), 0⟩]) O0 := by
 obtain ⟨t, ht⟩ : ∃ t, M.th x = t := ⟨_, rfl⟩
 have hx' : (x : Int) < (n : Int) := by omega
 have tok : t.ok := by rw [← ht]; exact h.tok hx
 have hag := aged_in M t tok
 obtain ⟨ag, hagn⟩ : ∃ ag : Nat, agedOf M t = (ag : Int) := ⟨(agedOf M t).toNat, by omega⟩
 rw [ht]
 have HMV : Hid (∀ V, SX w W0 V lab a P n q (T + 1) (tkM P M pr d) sb pr l O0 → Calls Tryz.prog 89 #[.pointer (some ⟨a.tb, 0, none⟩), .agg #[.int .i64 t.p, .int .u32 (t.g : Int)], .int .i64 2] V fun e w' => (∃ c : Int, e = .returned (.int .i64 c)) ∧ SX w W0 w' lab a P n q (T + 1) (dispA P n M pr x d) sb pr l O0) := fun V h => by
  unfold dispA
  rw [ht]
  exact h.lift (R := fun e => ∃ c : Int, e = .returned (.int .i64 c)) fun _ i => i.goes.move t.p t.g 2
 have HAG : Hid (∀ V, SX w W0 V lab a P n q (T + 1) (dispA P n M pr x d) sb pr l O0 → Calls Tryz.prog 124 #[.pointer (some ⟨a.m, 0, none⟩), .agg #[.int .i64 t.p, .int .u32 (t.g : Int), .int .i64 t.pg, .int .u8 (t.lv : Int), .int .u8 (t.lf : Int), .int .i64 t.sv, .int .i64 t.pc, .int .i64 t.ia, .int .i64 t.il, .int .u64 (t.sn : Int)]] V fun e w' => e = .returned (.int .u8 (ag : Int)) ∧ SX w W0 w' lab a P n q (T + 1) (dispA P n M pr x d) sb pr l O0) := fun V h => by
  rw [← hagn]
  exact h.liftB (R := fun e => e = _) fun _ i => i.aged t tok
 have HDB : Hid (∀ V, SX w W0 V lab a P n q (T + 1) (dispA P n M pr x d) sb pr l O0 → SX w W0 ((V.setCell ⟨a.th, x * 10 + 6, none⟩ (.int .i64 (pr : Int))).setCell ⟨a.th, x * 10 + 4, none⟩ (.int .u8 (ag : Int))) lab a P n q (T + 1) (dispB P n M pr x d) sb pr l O0) := fun V h => by
  have e : (agedOf M (M.th x)).toNat = ag := by rw [ht, hagn]; rfl
  unfold dispB
  rw [e]
  exact h.goes fun _ i => i.setDisp hx (pr : Int) ag (by omega)
 have HDM : Hid (∀ V, SX w W0 V lab a P n q (T + 1) (dispB P n M pr x d) sb pr l O0 → SX w W0 (((V.setCell ⟨a.pr, pr * 3, none⟩ (.int .i64 (x : Int))).setCell ⟨a.pr, pr * 3 + 1, none⟩ (.int .u64 0)).setCell ⟨a.pr, pr * 3 + 2, none⟩ (.bool false)) lab a P n q (T + 1) (dispM P n M pr x d) sb pr l O0) := fun V h => h.goes fun _ i => i.setProc hp (x : Int) 0 (by decide) false
 have HEN : Hid (∀ ba V, SX w W0 V lab a P n q (T + 1) (dispM P n M pr x d) sb pr l O0 → Calls Tryz.prog 123 #[.pointer (some ⟨sb, 0, none⟩), .int .i64 3, .agg #[.int .i64 t.p, .int .u32 (t.g : Int)], .int .i64 ba] V fun e w' => e = .panicked pOver ∧ SX w W0 w' lab a P n q (T + 1) (dispM P n M pr x d) sb pr (l ++ [⟨3, (pr : Int), t.p, t.g, ba, 0⟩]) O0) := fun ba V h => h.end_ hl 3 t.p t.g ba
 have HFA : Hid (∀ V M', M'.th x = t → SX w W0 V lab a P n q (T + 1) M' sb pr l O0 → (V.cell? ⟨sb, 0, none⟩ = some (.pointer (some ⟨a.m, 0, none⟩)) ∧ V.cell? ⟨a.m, 5, none⟩ = some (.pointer (some ⟨a.tb, 0, none⟩)) ∧ V.cell? ⟨a.th, x * 10, none⟩ = some (.int .i64 t.p) ∧ V.cell? ⟨a.th, x * 10 + 1, none⟩ = some (.int .u32 (t.g : Int))) ∧ V.cell? ⟨a.m, 4, none⟩ = some (.slice (some ⟨a.th, 0, none⟩) n a.xt) ∧ V.cell? ⟨sb, 1, none⟩ = some (.int .i64 (pr : Int)) ∧ TrAt V a.th (x * 10) t ∧ ∀ o, V.frozen? ⟨a.th, o, none⟩ = false) := fun V M' e h => ⟨⟨h.c0, h.core.c5, by rw [← e]; exact (h.tr hx).c0, by rw [← e]; exact (h.tr hx).c1⟩, h.core.c4, h.c1, by rw [← e]; exact h.tr hx, h.tfz⟩
 have HFB : Hid (∀ V, SX w W0 V lab a P n q (T + 1) (dispB P n M pr x d) sb pr l O0 → V.cell? ⟨sb, 2, none⟩ = some (.pointer (some ⟨a.pr, pr * 3, none⟩)) ∧ PcAt V a.pr (pr * 3) (M.pc pr) ∧ ∀ o, V.frozen? ⟨a.pr, o, none⟩ = false) := fun V h => ⟨h.c2, h.pc hp, h.pfz⟩
 have HFC : Hid (∀ V, SX w W0 V lab a P n q (T + 1) (dispM P n M pr x d) sb pr l O0 → V.cell? ⟨a.th, x * 10, none⟩ = some (.int .i64 t.p) ∧ V.cell? ⟨a.th, x * 10 + 1, none⟩ = some (.int .u32 (t.g : Int))) := fun V h => by
  have e : (dispM P n M pr x d).th x = { t with pc := (pr : Int), lf := (agedOf M t).toNat } := by unfold dispM dispB; simp only [Gt.upd_same]; rw [ht]
  have := h.tr hx
  rw [e] at this
  exact ⟨this.c0, this.c1⟩
 have hth : ¬ a.th = sb := fun e => by
  obtain ⟨k, v, s⟩ := h.sp
  have h1 := s.ls
  rw [← e, s.at_.i.lth] at h1
  cases h1
 have hta : (tkM P M pr d).th x = t := ht
 have htb : (dispA P n M pr x d).th x = t := ht
 have HF1 := veil (fun V h => HFA.out V _ hta h)
 have HF2 := veil (fun V h => HFA.out V _ htb h)
 have hbt := fun w => buildPc (x : Int) w
 clear HFA hta htb ht tok hag hagn
 obtain ⟨O, hs, hwrap⟩ := h.base
 have HTK : Hid (∀ V, Below W.heap.size W V → Calls Tryz.prog 122 #[.pointer (some ⟨a.pb, 0, none⟩), .int .i64 (pr : Int), .int .u64 d] V fun e w' => e = .returned (.tuple #[.int .i64 (bI (gh M.pl) (bb P (gh M.pl) (pr : Int) d)), .agg #[.bool (bK (gh M.pl) (bb P (gh M.pl) (pr : Int) d)).e, .int .u64 (bK (gh M.pl) (bb P (gh M.pl) (pr : Int) d)).d, .int .u8 (bK (gh M.pl) (bb P (gh M.pl) (pr : Int) d)).l], .int .i64 (bA (bb P (gh M.pl) (pr : Int) d)), .bool (bb P (gh M.pl) (pr : Int) d).isSome]) ∧ ∃ O1, SG w w' lab a P n q (T + 1) (tkM P M pr d) sb pr l O1 ∧ (W.heap.size < V.heap.size → ¬ O1 W.heap.size) ∧ Fr O W w' ∧ (∀ k, k < W.heap.size → O1 k → O k) ∧ (KeyN V W.heap.size → KeyN w' W.heap.size)) := fun V hb => by
  have hV := hs.below hb
  have hn : ¬ O W.heap.size := fun q => by have := hs.lt q; omega
  obtain ⟨lk, v, s, ho⟩ := id hV
  refine (s.at_.i.take (pr : Int) d hd).mono ?_
  rintro e w' ⟨rfl, hg⟩
  obtain ⟨lab', A, hl, hf⟩ := s.at_.step hg
  have hl0 : lk W.heap.size = 0 := Classical.byContradiction fun q => hn ((ho _).2 (.inl q))
  have hle : ∀ k, k < V.heap.size → (lab' k ≠ 0 ∨ k = sb ∨ v.ownBlock = some k) → O k := fun k hk q => (ho k).2 (by
   rcases q with q | q
   ·exact .inl (by rw [← hl k hk]; exact q)
   ·exact .inr q)
  refine ⟨rfl, _, ⟨lab', v, s.keep A hl (fun b hb hl => hf.box hl hb), fun _ => Iff.rfl⟩, ?_, (ofBelow hb).then hf (fun k hk q => (ho k).2 (.inl q)), fun k hk q => hle k (Nat.lt_of_lt_of_le hk hb.size) q, fun kn => ?_⟩
  ·rintro hlt (q | q | q)
   ·exact q (by rw [hl _ hlt]; exact hl0)
   ·exact hn ((ho _).2 (.inr (.inl q)))
   ·exact hn ((ho _).2 (.inr (.inr q)))
  ·have e := hf.box hl0 (World.block_lt_of_cell? V _ kn.c0)
   exact ⟨(World.cell?_of_block e).trans kn.c0, (World.cell?_of_block e).trans kn.c1, (World.cell?_of_block e).trans kn.c2, (World.frozen?_of_block e).trans kn.f0, (World.frozen?_of_block e).trans kn.f1, (World.frozen?_of_block e).trans kn.f2⟩
 have HC : Hid (∀ V M' T', ∀ O1, SG w V lab a P n q T' M' sb pr l O1 → V.cell? ⟨sb, 0, none⟩ = some (.pointer (some ⟨a.m, 0, none⟩)) ∧ V.cell? ⟨sb, 1, none⟩ = some (.int .i64 (pr : Int)) ∧ V.cell? ⟨a.m, 8, none⟩ = some (.pointer (some ⟨a.pb, 0, none⟩))) := fun V M' T' O1 h => ⟨h.sx.c0, h.sx.c1, h.sx.core.c8⟩
 have hwl := hs.wl
 have HWR := veil hwrap
 have HS := veil hs
 have H0 := veil (Below.refl W.heap.size W)
 have HKN := veil (KeyN.new W)
 obtain ⟨c0, c1, c8⟩ := HC.out _ _ _ _ hs
 have c2 := h.c2
 have r0 := (h.pc hp).c0
 have n1 : ¬ sb = W.heap.size := by have : sb < W.heap.size := World.block_lt_of_cell? W _ c0; omega
 have n2 : ¬ W.heap.size = sb := fun e => n1 e.symm
 have n3 : ¬ a.m = W.heap.size := by have : a.m < W.heap.size := World.block_lt_of_cell? W _ c8; omega
 have n4 : ¬ W.heap.size = a.m := fun e => n3 e.symm
 rw [hr] at r0
 clear h hs hwrap hr
 generalize bI (gh M.pl) (bb P (gh M.pl) (pr : Int) d) = bi at *
 generalize bK (gh M.pl) (bb P (gh M.pl) (pr : Int) d) = bk at *
 generalize bA (bb P (gh M.pl) (pr : Int) d) = ba at *
 generalize (bb P (gh M.pl) (pr : Int) d).isSome = ok at *
 have HAL : Hid (∀ w1 O1 T' M' (o : Obj), SG w w1 lab a P n q T' M' sb pr l O1 → Fr O W w1 → (∀ k, k < W.heap.size → O1 k → O k) → SX w W0 (w1.alloc o) lab a P n q T' M' sb pr l O0) := fun w1 O1 T' M' o h1 h2 h3 => HWR.out _ _ _ _ ⟨O1, h1.below ((Below.refl _ _).alloc (Nat.le_refl _) _), h2.then (ofBelow (S := fun _ => False) ((Below.refl w1.heap.size w1).alloc (Nat.le_refl _) o)) (fun _ _ q => q.elim), h3⟩
 have HAS : Hid (∀ w1 O1 T' M' u0 u1 u2, SG w w1 lab a P n q T' M' sb pr l O1 → ¬ O1 W.heap.size → Fr O W w1 → (∀ k, k < W.heap.size → O1 k → O k) → SX w W0 (((w1.setCell ⟨W.heap.size, 0, none⟩ u0).setCell ⟨W.heap.size, 1, none⟩ u1).setCell ⟨W.heap.size, 2, none⟩ u2) lab a P n q T' M' sb pr l O0) := fun w1 O1 T' M' u0 u1 u2 h1 hn h2 h3 => HWR.out _ _ _ _ ⟨O1, ((h1.setBox hn hwl 0 u0).setBox hn hwl 1 u1).setBox hn hwl 2 u2, h2.then ((((Fr.refl (fun k => k = W.heap.size) w1).setCell (a := ⟨W.heap.size, 0, none⟩) rfl u0).setCell (a := ⟨W.heap.size, 1, none⟩) rfl u1).setCell (a := ⟨W.heap.size, 2, none⟩) rfl u2) (fun k hk q => by omega), h3⟩
 go_enter Tryz.func75, Tryz.ntmps75
 go_wp2
 go_region_held3 (fun w' => w'.cell? ⟨sb, 0, none⟩ = some (.pointer (some ⟨a.m, 0, none⟩)) ∧ w'.cell? ⟨sb, 1, none⟩ = some (.int .i64 (pr : Int)) ∧ w'.cell? ⟨a.m, 8, none⟩ = some (.pointer (some ⟨a.pb, 0, none⟩)))
  (first | exact HC.out _ _ _ _ HG1.out | exact HC.out _ _ _ _ (HG1.out.below ((Below.refl _ _).alloc (Nat.le_refl _) _)) | go_keep)
  (first
   | (go_at_call 122; refine (HTK.out _ (by exact below_post H0.out rfl rfl rfl rfl)).mono ?_; rintro e w1 ⟨rfl, O1, hg, _, hf1, ho1, _⟩; have HG1 := veil hg; have HF1 := veil hf1; have HO1 := veil ho1; clear hg hf1 ho1)
   | (go_at_call 122; refine (HTK.out _ (by exact below_post ((Below.refl W.heap.size W).alloc (Nat.le_refl _) _) rfl rfl rfl rfl)).mono ?_; rintro e w1 ⟨rfl, O1, hg, hno1, hf1, ho1, hkn⟩; have HG1 := veil hg; have HN1 := veil hno1; have HF1 := veil hf1; have HO1 := veil ho1; obtain ⟨r0', r1, r2, f0, f1, f2⟩ := hkn (HKN.out.kept (by exact bp (Below.refl _ _) rfl rfl rfl rfl)); clear hg hno1 hf1 ho1 hkn))
 all_goals (rename_i hHeld; clear hHeld)
 all_goals first
  | (have HX := veil (HAS.out w1 O1 _ _ (.bool bk.e) (.int .u64 bk.d) (.int .u8 bk.l) HG1.out (HN1.out (by simp)) HF1.out HO1.out); clear r0' r1 r2 f0 f1 f2; generalize ((w1.setCell ⟨W.heap.size, 0, none⟩ (.bool bk.e)).setCell ⟨W.heap.size, 1, none⟩ (.int .u64 bk.d)).setCell ⟨W.heap.size, 2, none⟩ (.int .u8 bk.l) = Wc at *)
  | (have HX := veil (HAL.out w1 O1 _ _ (.cells #[.bool bk.e, .int .u64 bk.d, .int .u8 bk.l] 67) HG1.out HF1.out HO1.out); generalize w1.alloc (.cells #[.bool bk.e, .int .u64 bk.d, .int .u8 bk.l] 67) = Wc at *)
 all_goals clear c0 c1 c8 n1 n2 n3 n4 c2 r0 HG1 HF1 HO1 HAL HAS HTK HC HKN H0 HS HWR
 all_goals subst hok
 all_goals subst hbi
 all_goals obtain ⟨⟨a0, a5, ap, ag0⟩, a4, a1, _, _⟩ := HF1.out _ HX.out
 all_goals go_upto_region 5 with fail
 all_goals go_region_held3 (fun w' => w'.cell? ⟨sb, 0, none⟩ = some (.pointer (some ⟨a.m, 0, none⟩)) ∧ w'.cell? ⟨a.m, 5, none⟩ = some (.pointer (some ⟨a.tb, 0, none⟩)) ∧ w'.cell? ⟨a.th, x * 10, none⟩ = some (.int .i64 t.p) ∧ w'.cell? ⟨a.th, x * 10 + 1, none⟩ = some (.int .u32 (t.g : Int)))
  (first | exact (HF2.out _ HG2.out).1 | go_keep)
  (first
   | (go_at_call 89; refine (HMV.out _ (by exact SX.like HX.out rfl rfl rfl rfl)).mono ?_; rintro e w2 ⟨⟨c, rfl⟩, hg⟩; have HG2 := veil hg; clear hg))
 all_goals clear a0 a5 ap ag0 a4 a1 HX HF1 HMV
 all_goals (rename_i hHeld; clear hHeld)
 all_goals obtain ⟨⟨b0, b5, bp', bg⟩, b4, b1, ⟨d0, d1, d2, d3, d4, d5, d6, d7, d8, d9⟩, fz⟩ := HF2.out _ HG2.out
 all_goals go_upto_region 6 with fail
 all_goals
  refine wp_region_held_drew (S := (fun w' => w'.cell? ⟨sb, 1, none⟩ = some (.int .i64 (pr : Int)) ∧ w'.cell? ⟨sb, 0, none⟩ = some (.pointer (some ⟨a.m, 0, none⟩)))) (by kernel_rfl) ?_ (fun hHeld => ?_)
  ·exact ⟨b1, b0⟩
  refine tkX 0 (v := ?_) rfl ?v0 ?_
  case v0 => (intro w hSw; (try dsimp only at hSw); obtain ⟨hSa, hSb⟩ := hSw; go_simp; try with_reducible rfl)
  try simp only [puX]
  refine tkX 1 (v := ?_) rfl ?v1 ?_
  case v1 => (intro w hSw; (try dsimp only at hSw); obtain ⟨hSa, hSb⟩ := hSw; go_simp; try with_reducible rfl)
  try simp only [puX]
  refine tkX 2 (v := ?_) rfl ?v2 ?_
  case v2 => (intro w hSw; (try dsimp only at hSw); obtain ⟨hSa, hSb⟩ := hSw; go_simp; try with_reducible rfl)
  try simp only [puX]
  refine tkX 3 (v := ?_) rfl ?v3 ?_
  case v3 => (intro w hSw; (try dsimp only at hSw); obtain ⟨hSa, hSb⟩ := hSw; go_simp; try with_reducible rfl)
  try simp only [puX]
  refine tkX 4 (v := ?_) rfl ?v4 ?_
  case v4 => (intro w hSw; (try dsimp only at hSw); obtain ⟨hSa, hSb⟩ := hSw; go_simp; try with_reducible rfl)
  try simp only [puX]
  refine tkX 5 (v := ?_) rfl ?v5 ?_
  case v5 => (intro w hSw; (try dsimp only at hSw); obtain ⟨hSa, hSb⟩ := hSw; go_simp; try with_reducible rfl)
  try simp only [puX]
  refine tkX 6 (v := ?_) rfl ?v6 ?_
  case v6 => (intro w hSw; (try dsimp only at hSw); obtain ⟨hSa, hSb⟩ := hSw; go_simp; try with_reducible rfl)
  try simp only [puX]
  refine tkX 7 (v := ?_) rfl ?v7 ?_
  case v7 => (intro w hSw; (try dsimp only at hSw); obtain ⟨hSa, hSb⟩ := hSw; go_simp; try with_reducible rfl)
  try simp only [puX]
  refine tkX 8 (v := ?_) rfl ?v8 ?_
  case v8 => (intro w hSw; (try dsimp only at hSw); obtain ⟨hSa, hSb⟩ := hSw; go_simp; try with_reducible rfl)
  try simp only [puX]
  refine tkX 9 (v := ?_) rfl ?v9 ?_
  case v9 => (intro w hSw; (try dsimp only at hSw); obtain ⟨hSa, hSb⟩ := hSw; go_simp; try with_reducible rfl)
  try simp only [puX]
  refine tkX 10 (v := ?_) rfl ?v10 ?_
  case v10 => (intro w hSw; (try dsimp only at hSw); obtain ⟨hSa, hSb⟩ := hSw; go_simp; try with_reducible rfl)
  try simp only [puX]
  refine tkX 11 (v := ?_) rfl ?v11 ?_
  case v11 => (intro w hSw; (try dsimp only at hSw); obtain ⟨hSa, hSb⟩ := hSw; go_simp; try with_reducible rfl)
  try simp only [puX]
  refine wpAnyH_ready (rs := [12]) (by kernel_rfl) (by simp) ?_
  refine AllReadyH.cons rfl (fun K hK => ?_) AllReadyH.nil
  go_simp
  refine hK.out _ _ ?_ (fun hHeld => ?_)
  ·exact hHeld
  clear hK K
  try simp only [puX]
  refine wpAnyH_ready (rs := [13]) (by kernel_rfl) (by simp) ?_
  refine AllReadyH.cons rfl (fun K hK => ?_) AllReadyH.nil
  go_simp
  go_at_call 124
  refine (HAG.out _ (by exact SX.like HG2.out rfl rfl rfl rfl)).mono ?_
  rintro e w3 ⟨rfl, hg⟩
  have HG3 := veil hg
  obtain ⟨⟨e0, e5, ep, eg⟩, e4, e1, ⟨f0, f1, f2, f3, f4, f5, f6, f7, f8, f9⟩, fz3⟩ := HF2.out _ hg
  clear hg
  refine hK.out _ _ ?_ (fun hHeld => ?_)
  ·exact ⟨e1, e0⟩
  clear hK K
  try simp only [puX]
  refine tkX 14 (v := ?_) rfl ?v14 ?_
  case v14 => (intro w hSw; (try dsimp only at hSw); obtain ⟨hSa, hSb⟩ := hSw; go_simp; try with_reducible rfl)
  try simp only [puX]
  refine tkX 15 (v := ?_) rfl ?v15 ?_
  case v15 => (intro w hSw; (try dsimp only at hSw); obtain ⟨hSa, hSb⟩ := hSw; go_simp; try with_reducible rfl)
  try simp only [puX]
  refine wpAnyH_ready (rs := [16]) (by kernel_rfl) (by simp) ?_
  refine AllReadyH.cons rfl (fun K hK => ?_) AllReadyH.nil
  go_simp
  refine hK.out _ _ ?_ (fun hHeld => ?_)
  ·exact ⟨(Gt.set_other _ _ _ _ _ _ (fun q => hth q.1)).trans e1, (Gt.set_other _ _ _ _ _ _ (fun q => hth q.1)).trans e0⟩
  clear hK K
  try simp only [puX]
  refine tkX 17 (v := ?_) rfl ?v17 ?_
  case v17 => (intro w hSw; (try dsimp only at hSw); obtain ⟨hSa, hSb⟩ := hSw; go_simp; try with_reducible rfl)
  try simp only [puX]
  refine tkX 18 (v := ?_) rfl ?v18 ?_
  case v18 => (intro w hSw; (try dsimp only at hSw); obtain ⟨hSa, hSb⟩ := hSw; go_simp; try with_reducible rfl)
  try simp only [puX]
  refine wpAnyH_ready (rs := [19]) (by kernel_rfl) (by simp) ?_
  refine AllReadyH.cons rfl (fun K hK => ?_) AllReadyH.nil
  go_simp
  refine hK.out _ _ ?_ (fun hHeld => ?_)
  ·exact ⟨(Gt.set_other _ _ _ _ _ _ (fun q => hth q.1)).trans ((Gt.set_other _ _ _ _ _ _ (fun q => hth q.1)).trans e1), (Gt.set_other _ _ _ _ _ _ (fun q => hth q.1)).trans ((Gt.set_other _ _ _ _ _ _ (fun q => hth q.1)).trans e0)⟩
  clear hK K
  try simp only [puX]
  refine wpAnyH_done (by kernel_rfl) ?_ _
  have HG4 := veil (HDB.out _ HG3.out)
  clear d0 d1 d2 d3 d4 d5 d6 d7 d8 d9 fz b0 b5 bp' bg b4 b1 e0 e5 ep eg e4 e1 f0 f1 f2 f3 f4 f5 f6 f7 f8 f9 fz3 HG2 HG3 HF2 HAG HDB
  generalize (w3.setCell ⟨a.th, x * 10 + 6, none⟩ (.int .i64 (pr : Int))).setCell ⟨a.th, x * 10 + 4, none⟩ (.int .u8 (ag : Int)) = w4 at *
  obtain ⟨g2, ⟨g0, g1, gm⟩, gf⟩ := HFB.out _ HG4.out
  go_upto_region 8 with fail
  have HG5 := veil (HDM.out _ HG4.out)
  clear g0 g1 gm gf g2 HFB HG4 HDM
  generalize ((w4.setCell ⟨a.pr, pr * 3, none⟩ (.int .i64 (x : Int))).setCell ⟨a.pr, pr * 3 + 1, none⟩ (.int .u64 0)).setCell ⟨a.pr, pr * 3 + 2, none⟩ (.bool false) = w5 at *
  obtain ⟨i0, i1⟩ := HFC.out _ HG5.out
  go_wp2_with (first
   | (go_at_call 123; refine (HEN.out _ _ HG5.out).mono ?_; rintro e w6 ⟨rfl, hg⟩; have HG := veil hg; clear hg))
  simp [bodyPost]
  exact HG.out
end
end Go.Proofs.YtjlbmmiomfpgiaaGreatDoor
namespace Go.Proofs.YtjlbmmiomfpgiaaGreatDoor
set_option maxRecDepth 100000
open Go.RowKit
set_option linter.unusedVariables false
set_option linter.unusedSimpArgs false
section
variable {w W W' : World} {lab labk : Nat → Nat} {a : Ad} {P n q T T' : Nat} {M M' : Mc} {sb pr : Nat} {l : List Ev} {v : Value} {O O0 : Nat → Prop} {W0 : World}
set_option maxHeartbeats 4000000 in
theorem SG.ran_no (h : SG w W lab a P n q T M sb pr l O) (hl : l.length ≤ 10000) (x : Nat) (hx : x < n) (op ar er : Int) (her : er ≠ 0) :
  Calls Tryz.prog 158 #[.pointer (some ⟨sb, 0, none⟩), .pointer (some ⟨a.th, x * 10, none⟩), .agg #[.int .i64 op, .int .i64 ar], .int .i64 er] W fun e w' => e = .panicked pOver ∧ SX w W w' lab a P n q T M sb pr (l ++ [⟨6, (pr : Int), (M.th x).p, (M.th x).g, op, er⟩]) O := by
 obtain ⟨labk, v, hs, hO⟩ := h
 obtain ⟨t, ht⟩ : ∃ t, M.th x = t := ⟨_, rfl⟩
 rw [ht]
 have hb0 : Below W.heap.size W (W.alloc (.cells #[.int .i64 op, .int .i64 ar] 64)) := (Below.refl _ _).alloc (Nat.le_refl _) _
 have s0 := hs.below hb0
 have k0 := newc W #[.int .i64 op, .int .i64 ar] 64 0 _ rfl
 have t0 : (W.alloc (.cells #[.int .i64 op, .int .i64 ar] 64)).cell? ⟨a.th, x * 10, none⟩ = some (.int .i64 t.p) := by rw [← ht]; exact (s0.at_.i.th.at_ x hx).c0
 have t1 : (W.alloc (.cells #[.int .i64 op, .int .i64 ar] 64)).cell? ⟨a.th, x * 10 + 1, none⟩ = some (.int .u32 (t.g : Int)) := by rw [← ht]; exact (s0.at_.i.th.at_ x hx).c1
 have hsib : ¬ sb = W.heap.size := by have := hs.lt; omega
 have hsib' : ¬ W.heap.size = sb := fun e => hsib e.symm
 have hst : ¬ sb = a.th := fun e => by have h1 := hs.ls; rw [e, hs.at_.i.lth] at h1; cases h1
 have hst' : ¬ a.th = sb := fun e => hst e.symm
 have c3 := hs.c3
 have hv := hs.hv
 have hk := hs.hk
 have HB0 := veil hb0
 have hki : ∀ k, v.ownBlock = some k → k ≠ W.heap.size := fun k e => by have := (hv.lt e).1; omega
 have hkt : ∀ k, v.ownBlock = some k → k ≠ a.th := fun k e q => by have h1 := (hk k e).1; rw [q, hs.at_.i.lth] at h1; cases h1
 replace c3 := kc hb0 c3
 replace hv := hv.below hb0
 clear hs hb0 ht
 generalize hW : W.alloc (.cells #[.int .i64 op, .int .i64 ar] 64) = W0 at *
 have HW := veil hW
 clear hW
 have p1 := s0.c1
 obtain ⟨ad, cap, rfl⟩ := Cb.owns_slice hv
 obtain ⟨ev, hev⟩ : ∃ ev : Ev, (⟨6, (pr : Int), t.p, t.g, op, er⟩ : Ev) = ev := ⟨_, rfl⟩
 have hb1 : Below W0.heap.size W0 (W0.alloc (.cells #[.int .i64 6, .int .i64 (pr : Int), .int .i64 t.p, .int .u32 (t.g : Int), .int .i64 op, .int .i64 er] 75)).drew := ((Below.refl _ W0).alloc (Nat.le_refl _) _).drew
 have s1 := s0.below hb1
 have q31 := kc hb1 c3
 have q1 := kc hb1 p1
 have m0 := kc hb1 k0
 have u0 := kc hb1 t0
 have u1 := kc hb1 t1
 have HOW : Hid ((W0.alloc (.cells #[.int .i64 6, .int .i64 (pr : Int), .int .i64 t.p, .int .u32 (t.g : Int), .int .i64 op, .int .i64 er] 75)).drew.ownsRow w.heap.size 75 6 (.slice ad l.length cap) l.length (evCells l)) := s1.hv
 have HNW : Hid (∀ j u, (evOne ev)[j]? = some u → (W0.alloc (.cells #[.int .i64 6, .int .i64 (pr : Int), .int .i64 t.p, .int .u32 (t.g : Int), .int .i64 op, .int .i64 er] 75)).drew.cell? ((⟨W0.heap.size, 0, none⟩ : Addr).add j) = some u) := by
  rw [← hev]
  exact Cb.news_of (w1 := W0) (c := evOne ⟨6, (pr : Int), t.p, t.g, op, er⟩) rfl
 have HBS : Hid (w.heap.size ≤ (W0.alloc (.cells #[.int .i64 6, .int .i64 (pr : Int), .int .i64 t.p, .int .u32 (t.g : Int), .int .i64 op, .int .i64 er] 75)).drew.heap.size) := s1.at_.f.size
 generalize hW1 : (W0.alloc (.cells #[.int .i64 6, .int .i64 (pr : Int), .int .i64 t.p, .int .u32 (t.g : Int), .int .i64 op, .int .i64 er] 75)).drew = W1 at *
 have HEND : Hid (∀ v1 w2, w2.ownsRow w.heap.size 75 6 v1 (l.length + 1) (evCells l ++ evOne ev) → W1.grownBy w2 (Value.slice ad l.length cap).ownBlock → (v1.ownBlock = (Value.slice ad l.length cap).ownBlock ∨ v1.ownBlock = some W1.heap.size) → (SX w W (w2.setCell ⟨sb, 3, none⟩ v1) lab a P n q T M sb pr (l ++ [ev]) O ∧ w2.cell? ⟨sb, 3, none⟩ = some (.slice ad l.length cap) ∧ w2.frozen? ⟨sb, 3, none⟩ = false) ∧ (w2.cell? ⟨sb, 1, none⟩ = some (.int .i64 (pr : Int)) ∧ w2.cell? ⟨W.heap.size, 0, none⟩ = some (.int .i64 op) ∧ w2.cell? ⟨a.th, x * 10, none⟩ = some (.int .i64 t.p) ∧ w2.cell? ⟨a.th, x * 10 + 1, none⟩ = some (.int .u32 (t.g : Int)))) := fun v1 w2 ho hg hat => by
  refine ⟨⟨((s1.told ho hg hat).1 O hO).ahead (bt HB0.out hb1), (s1.told ho hg hat).2⟩, ?_⟩
  have hbl : ∀ b, b < W1.heap.size → (Value.slice ad l.length cap).ownBlock ≠ some b → w2.heap[b]? = W1.heap[b]? := fun b hb hn => hg.block b hb (fun e => hn e.symm)
  have e1 := hbl sb s1.lt (fun e => (hk sb e).2 rfl)
  have e2 := hbl W.heap.size (World.block_lt_of_cell? W1 _ m0) (fun e => hki W.heap.size e rfl)
  have e3 := hbl a.th (World.block_lt_of_cell? W1 _ u0) (fun e => hkt a.th e rfl)
  exact ⟨(World.cell?_of_block e1).trans q1, (World.cell?_of_block e2).trans m0, (World.cell?_of_block e3).trans u0, (World.cell?_of_block e3).trans u1⟩
 have HW1 := veil hW1
 have HEV := veil hev
 clear hW1 hev
 obtain ⟨i0, hi0, hz0, hz1, hz2⟩ := Cb.info_parts infoEv
 have herb : (er != 0) = true := by simp [her]
 clear hv hk hki hkt s0 s1 hb1 hO HB0
 unfold pOver
 go_enter Tryz.func158, Tryz.ntmps158
 go_upto_region 2 with fail
 rw [HW.out]
 refine wp_region_held_drew (S := (fun w' => w'.cell? ⟨sb, 1, none⟩ = some (.int .i64 (pr : Int)) ∧ w'.cell? ⟨W.heap.size, 0, none⟩ = some (.int .i64 op) ∧ w'.cell? ⟨a.th, x * 10, none⟩ = some (.int .i64 t.p) ∧ w'.cell? ⟨a.th, x * 10 + 1, none⟩ = some (.int .u32 (t.g : Int)))) (by kernel_rfl) ?_ (fun hHeld => ?_)
 ·exact ⟨p1, k0, t0, t1⟩
 refine tkX 0 (v := ?_) rfl ?v0 ?_
 case v0 => (intro w hSw; (try dsimp only at hSw); obtain ⟨hSa, hSb, hSc, hSd⟩ := hSw; go_simp; try with_reducible rfl)
 try simp only [puX]
 refine tkX 1 (v := ?_) rfl ?v1 ?_
 case v1 => (intro w hSw; (try dsimp only at hSw); obtain ⟨hSa, hSb, hSc, hSd⟩ := hSw; go_simp; try with_reducible rfl)
 try simp only [puX]
 refine tkX 2 (v := ?_) rfl ?v2 ?_
 case v2 => (intro w hSw; (try dsimp only at hSw); obtain ⟨hSa, hSb, hSc, hSd⟩ := hSw; go_simp; try with_reducible rfl)
 try simp only [puX]
 refine tkX 3 (v := ?_) rfl ?v3 ?_
 case v3 => (intro w hSw; (try dsimp only at hSw); obtain ⟨hSa, hSb, hSc, hSd⟩ := hSw; go_simp; try with_reducible rfl)
 try simp only [puX]
 refine tkX 5 (v := ?_) rfl ?v5 ?_
 case v5 => (intro w hSw; (try dsimp only at hSw); obtain ⟨hSa, hSb, hSc, hSd⟩ := hSw; go_simp; try with_reducible rfl)
 try simp only [puX]
 refine tkX 6 (v := ?_) rfl ?v6 ?_
 case v6 => (intro w hSw; (try dsimp only at hSw); obtain ⟨hSa, hSb, hSc, hSd⟩ := hSw; go_simp; try with_reducible rfl)
 try simp only [puX]
 refine tkX 7 (v := ?_) rfl ?v7 ?_
 case v7 => (intro w hSw; (try dsimp only at hSw); obtain ⟨hSa, hSb, hSc, hSd⟩ := hSw; go_simp; try with_reducible rfl)
 try simp only [puX]
 refine tkX 8 (v := ?_) rfl ?v8 ?_
 case v8 => (intro w hSw; (try dsimp only at hSw); obtain ⟨hSa, hSb, hSc, hSd⟩ := hSw; go_simp; try with_reducible rfl)
 try simp only [puX]
 refine tkX 9 (v := ?_) rfl ?v9 ?_
 case v9 => (intro w hSw; (try dsimp only at hSw); obtain ⟨hSa, hSb, hSc, hSd⟩ := hSw; go_simp; try with_reducible rfl)
 try simp only [puX]
 refine tkX 10 (v := ?_) rfl ?v10 ?_
 case v10 => (intro w hSw; (try dsimp only at hSw); obtain ⟨hSa, hSb, hSc, hSd⟩ := hSw; go_simp; try with_reducible rfl)
 try simp only [puX]
 refine tkX 11 (v := ?_) rfl ?v11 ?_
 case v11 => (intro w hSw; (try dsimp only at hSw); obtain ⟨hSa, hSb, hSc, hSd⟩ := hSw; go_simp; try with_reducible rfl)
 try simp only [puX]
 refine tkX 12 (v := ?_) rfl ?v12 ?_
 case v12 => (intro w hSw; (try dsimp only at hSw); obtain ⟨hSa, hSb, hSc, hSd⟩ := hSw; go_simp; try with_reducible rfl)
 try simp only [puX]
 refine tkX 13 (v := ?_) rfl ?v13 ?_
 case v13 => (intro w hSw; (try dsimp only at hSw); obtain ⟨hSa, hSb, hSc, hSd⟩ := hSw; go_simp; try with_reducible rfl)
 try simp only [puX]
 refine tkX 14 (v := ?_) rfl ?v14 ?_
 case v14 => (intro w hSw; (try dsimp only at hSw); obtain ⟨hSa, hSb, hSc, hSd⟩ := hSw; go_simp; try with_reducible rfl)
 try simp only [puX]
 refine tkX 15 (v := ?_) rfl ?v15 ?_
 case v15 => (intro w hSw; (try dsimp only at hSw); obtain ⟨hSa, hSb, hSc, hSd⟩ := hSw; go_simp; try with_reducible rfl)
 try simp only [puX]
 refine tkX 16 (v := ?_) rfl ?v16 ?_
 case v16 => (intro w hSw; (try dsimp only at hSw); obtain ⟨hSa, hSb, hSc, hSd⟩ := hSw; go_simp; try with_reducible rfl)
 try simp only [puX]
 refine wpAnyH_ready (rs := [4, 17]) (by kernel_rfl) (by simp) ?_
 refine AllReadyH.cons rfl (fun K hK => ?_) (AllReadyH.cons rfl (fun K hK => ?_) AllReadyH.nil)
 ·skip
  go_simp
  refine hK.out _ _ ?_ (fun hHeld => ?_)
  ·exact hHeld
  clear hK K
  try simp only [puX]
  refine wpAnyH_ready (rs := [17]) (by kernel_rfl) (by simp) ?_
  refine AllReadyH.cons rfl (fun K hK => ?_) AllReadyH.nil
  go_simp
  rw [HW1.out]
  refine hK.out _ _ ?_ (fun hHeld => ?_)
  ·exact ⟨q1, m0, u0, u1⟩
  clear hK K
  try simp only [puX]
  refine wpAnyH_ready (rs := [18]) (by kernel_rfl) (by simp) ?_
  refine AllReadyH.cons rfl (fun K hK => ?_) AllReadyH.nil
  refine step_append_ev _ (by rfl) _ _ _ (by rfl) w.heap.size 75 i0 (.agg #[.int .i64 0, .int .i64 0, .int .i64 0, .int .u32 0, .int .i64 0, .int .i64 0]) 6 48 Tryz.underlying38 hi0 hz0 hz1 hz2 rfl (by omega) (.slice ad l.length cap) l.length (evCells l) (by rfl) HOW.out ⟨W0.heap.size, 0, none⟩ 1 1 (evOne ev) (by rfl) rfl HNW.out (evOne_one _) (by unfold maxLen; omega) (by omega) HBS.out ?_
  intro v1 w2 ho1 hg1 hat1
  obtain ⟨⟨hsg, y1, y2⟩, hS2⟩ := HEND.out _ _ ho1 hg1 hat1
  obtain ⟨a1, d1, rfl⟩ := Cb.owns_slice ho1
  have HX := veil hsg
  clear hsg ho1 hg1 hat1
  refine hK.out _ _ ?_ (fun hHeld => ?_)
  ·exact hS2
  clear hK K
  try simp only [puX]
  refine tkX 19 (v := ?_) rfl ?v19 ?_
  case v19 => (intro w hSw; (try dsimp only at hSw); obtain ⟨hSa, hSb, hSc, hSd⟩ := hSw; go_simp; try with_reducible rfl)
  try simp only [puX]
  refine tkX 20 (v := ?_) rfl ?v20 ?_
  case v20 => (intro w hSw; (try dsimp only at hSw); obtain ⟨hSa, hSb, hSc, hSd⟩ := hSw; go_simp; try with_reducible rfl)
  try simp only [puX]
  refine wpAnyH_ready (rs := [21]) (by kernel_rfl) (by simp) ?_
  refine AllReadyH.cons rfl (fun K hK => ?_) AllReadyH.nil
  go_simp
  refine hK.out _ _ ?_ (fun hHeld => ?_)
  ·exact ⟨(cfar w2 (by decide)).trans hS2.1, (Gt.set_other _ _ _ _ _ _ (fun q => hsib q.1)).trans hS2.2.1, (Gt.set_other _ _ _ _ _ _ (fun q => hst q.1)).trans hS2.2.2.1, (Gt.set_other _ _ _ _ _ _ (fun q => hst q.1)).trans hS2.2.2.2⟩
  clear hK K
  try simp only [puX]
  refine wpAnyH_done (by kernel_rfl) ?_ _
  go_wp2
  simp [bodyPost]
  rw [HEV.out]
  exact HX.out
 ·skip
  go_simp
  rw [HW1.out]
  refine hK.out _ _ ?_ (fun hHeld => ?_)
  ·exact ⟨q1, m0, u0, u1⟩
  clear hK K
  try simp only [puX]
  refine wpAnyH_ready (rs := [4]) (by kernel_rfl) (by simp) ?_
  refine AllReadyH.cons rfl (fun K hK => ?_) AllReadyH.nil
  go_simp
  refine hK.out _ _ ?_ (fun hHeld => ?_)
  ·exact hHeld
  clear hK K
  try simp only [puX]
  refine wpAnyH_ready (rs := [18]) (by kernel_rfl) (by simp) ?_
  refine AllReadyH.cons rfl (fun K hK => ?_) AllReadyH.nil
  refine step_append_ev _ (by rfl) _ _ _ (by rfl) w.heap.size 75 i0 (.agg #[.int .i64 0, .int .i64 0, .int .i64 0, .int .u32 0, .int .i64 0, .int .i64 0]) 6 48 Tryz.underlying38 hi0 hz0 hz1 hz2 rfl (by omega) (.slice ad l.length cap) l.length (evCells l) (by rfl) HOW.out ⟨W0.heap.size, 0, none⟩ 1 1 (evOne ev) (by rfl) rfl HNW.out (evOne_one _) (by unfold maxLen; omega) (by omega) HBS.out ?_
  intro v1 w2 ho1 hg1 hat1
  obtain ⟨⟨hsg, y1, y2⟩, hS2⟩ := HEND.out _ _ ho1 hg1 hat1
  obtain ⟨a1, d1, rfl⟩ := Cb.owns_slice ho1
  have HX := veil hsg
  clear hsg ho1 hg1 hat1
  refine hK.out _ _ ?_ (fun hHeld => ?_)
  ·exact hS2
  clear hK K
  try simp only [puX]
  refine tkX 19 (v := ?_) rfl ?v19 ?_
  case v19 => (intro w hSw; (try dsimp only at hSw); obtain ⟨hSa, hSb, hSc, hSd⟩ := hSw; go_simp; try with_reducible rfl)
  try simp only [puX]
  refine tkX 20 (v := ?_) rfl ?v20 ?_
  case v20 => (intro w hSw; (try dsimp only at hSw); obtain ⟨hSa, hSb, hSc, hSd⟩ := hSw; go_simp; try with_reducible rfl)
  try simp only [puX]
  refine wpAnyH_ready (rs := [21]) (by kernel_rfl) (by simp) ?_
  refine AllReadyH.cons rfl (fun K hK => ?_) AllReadyH.nil
  go_simp
  refine hK.out _ _ ?_ (fun hHeld => ?_)
  ·exact ⟨(cfar w2 (by decide)).trans hS2.1, (Gt.set_other _ _ _ _ _ _ (fun q => hsib q.1)).trans hS2.2.1, (Gt.set_other _ _ _ _ _ _ (fun q => hst q.1)).trans hS2.2.2.1, (Gt.set_other _ _ _ _ _ _ (fun q => hst q.1)).trans hS2.2.2.2⟩
  clear hK K
  try simp only [puX]
  refine wpAnyH_done (by kernel_rfl) ?_ _
  go_wp2
  simp [bodyPost]
  rw [HEV.out]
  exact HX.out
theorem SX.ran_ok (h : SX w W0 W lab a P n q T M sb pr l O0) (hl : l.length ≤ 10000) (x : Nat) (hx : x < n) (op ar : Int) :
  Calls Tryz.prog 158 #[.pointer (some ⟨sb, 0, none⟩), .pointer (some ⟨a.th, x * 10, none⟩), .agg #[.int .i64 op, .int .i64 ar], .int .i64 0] W fun e w' => e = .returned (.tuple #[]) ∧ SX w W0 w' lab a P n q T M sb pr (l ++ [⟨5, (pr : Int), (M.th x).p, (M.th x).g, op, 0⟩]) O0 := h.call (R := fun e => e = .returned (.tuple #[])) fun _ s => s.ran_ok hl x hx op ar
theorem SX.ran_no (h : SX w W0 W lab a P n q T M sb pr l O0) (hl : l.length ≤ 10000) (x : Nat) (hx : x < n) (op ar er : Int) (her : er ≠ 0) :
  Calls Tryz.prog 158 #[.pointer (some ⟨sb, 0, none⟩), .pointer (some ⟨a.th, x * 10, none⟩), .agg #[.int .i64 op, .int .i64 ar], .int .i64 er] W fun e w' => e = .panicked pOver ∧ SX w W0 w' lab a P n q T M sb pr (l ++ [⟨6, (pr : Int), (M.th x).p, (M.th x).g, op, er⟩]) O0 := h.call (R := fun e => e = .panicked pOver) fun _ s => s.ran_no hl x hx op ar er her
end
end Go.Proofs.YtjlbmmiomfpgiaaGreatDoor
namespace Go.Proofs.YtjlbmmiomfpgiaaGreatDoor
set_option maxRecDepth 100000
open Go.RowKit
set_option linter.unusedVariables false
set_option linter.unusedSimpArgs false
section
variable {w W W' : World} {lab labk : Nat → Nat} {a : Ad} {P n q T T' : Nat} {M M' : Mc} {sb pr : Nat} {l : List Ev} {v : Value} {O O0 : Nat → Prop} {W0 : World}
theorem SX.grant_none (h : SX w W0 W lab a P n q T M sb pr l O0) (lk : Int) :
  Calls Tryz.prog 159 #[.pointer (some ⟨sb, 0, none⟩), .int .i64 (-1), .int .i64 lk] W fun e w' => e = .returned (.tuple #[]) ∧ SX w W0 w' lab a P n q T M sb pr l O0 := by
 have HS := veil h
 clear h
 go_enter Tryz.func159, Tryz.ntmps159
 go_wp2
 simp [bodyPost, results, Tryz.results159, go_sem]
 exact HS.out
end
end Go.Proofs.YtjlbmmiomfpgiaaGreatDoor
namespace Go.Proofs.YtjlbmmiomfpgiaaGreatDoor
set_option maxRecDepth 100000
open Go.RowKit
set_option linter.unusedVariables false
set_option linter.unusedSimpArgs false
section
variable {w W W' : World} {lab labk : Nat → Nat} {a : Ad} {P n q T T' : Nat} {M M' : Mc} {sb pr : Nat} {l : List Ev} {v : Value} {O O0 : Nat → Prop} {W0 : World}
theorem IsMc.lock (h : IsMc W labk a P n q T M) (t m : Int) :
  Calls Tryz.prog 181 #[.pointer (some ⟨a.gb, 0, none⟩), .int .i64 t, .int .i64 m] W fun e w' => e = .returned (.tuple #[.bool (Pi.lockR M.gr t m).1.1, .int .i64 (Pi.lockR M.gr t m).1.2]) ∧ Goes W w' labk a P n q T { M with gr := (Pi.lockR M.gr t m).2 } := by
 obtain ⟨b, O, hp, hO⟩ := h.gr
 exact (hp.lock t m).mono (fun _ _ ⟨e, hs⟩ => ⟨e, h.stp hO hs⟩)
theorem IsMc.unlock (h : IsMc W labk a P n q T M) (t m : Int) :
  Calls Tryz.prog 157 #[.pointer (some ⟨a.gb, 0, none⟩), .int .i64 t, .int .i64 m] W fun e w' => e = .returned (.tuple #[.int .i64 (Pi.unlR M.gr t m).1.1, .int .i64 (Pi.unlR M.gr t m).1.2]) ∧ Goes W w' labk a P n q T { M with gr := (Pi.unlR M.gr t m).2 } := by
 obtain ⟨b, O, hp, hO⟩ := h.gr
 exact (hp.unlock t m).mono (fun _ _ ⟨e, hs⟩ => ⟨e, h.stp hO hs⟩)
noncomputable def lockM (M : Mc) (x : Nat) (m : Int) : Mc := { M with gr := (Pi.lockR M.gr (M.th x).p m).2 }
set_option maxHeartbeats 4000000 in
theorem SG.lock_no (h : SG w W lab a P n q T M sb pr l O) (hl : l.length ≤ 9000) (hp : pr < P) (x : Nat) (hx : x < n) (op ar : Int) (he : (Pi.lockR M.gr (M.th x).p ar).1.2 ≠ 0) :
  Calls Tryz.prog 156 #[.pointer (some ⟨sb, 0, none⟩), .pointer (some ⟨a.th, x * 10, none⟩), .agg #[.int .i64 op, .int .i64 ar]] W fun e w' => e = .panicked pOver ∧ SX w W w' lab a P n q T (lockM M x ar) sb pr (l ++ [⟨6, (pr : Int), (M.th x).p, (M.th x).g, op, (Pi.lockR M.gr (M.th x).p ar).1.2⟩]) O := by
 obtain ⟨t, ht⟩ : ∃ t, M.th x = t := ⟨_, rfl⟩
 rw [ht]
 have hb0 : Below W.heap.size W (W.alloc (.cells #[.int .i64 op, .int .i64 ar] 64)) := (Below.refl _ _).alloc (Nat.le_refl _) _
 have h0 := (h.below hb0).sx
 have hno : ¬ O W.heap.size := fun q => by have := h.lt q; omega
 have k0 := newc W #[.int .i64 op, .int .i64 ar] 64 0 _ rfl
 have k1 := newc W #[.int .i64 op, .int .i64 ar] 64 1 _ rfl
 have HB0 := veil hb0
 clear hb0 h
 generalize hW : W.alloc (.cells #[.int .i64 op, .int .i64 ar] 64) = W0 at *
 have HW := veil hW
 clear hW
 obtain ⟨res, hres⟩ : ∃ res, Pi.lockR M.gr t.p ar = res := ⟨_, rfl⟩
 have HLK : Hid (∀ V, SX w W0 V lab a P n q T M sb pr l O → Calls Tryz.prog 181 #[.pointer (some ⟨a.gb, 0, none⟩), .int .i64 t.p, .int .i64 ar] V fun e w' => e = .returned (.tuple #[.bool res.1.1, .int .i64 res.1.2]) ∧ SX w W0 w' lab a P n q T (lockM M x ar) sb pr l O) := fun V h => by
  unfold lockM
  rw [ht, ← hres]
  exact h.lift (R := fun e => e = _) fun _ i => i.lock t.p ar
 have htl : (lockM M x ar).th x = t := ht
 have HC : Hid (∀ V M' l', M'.th x = t → SX w W0 V lab a P n q T M' sb pr l' O → (V.cell? ⟨sb, 0, none⟩ = some (.pointer (some ⟨a.m, 0, none⟩)) ∧ V.cell? ⟨a.m, 7, none⟩ = some (.pointer (some ⟨a.gb, 0, none⟩)) ∧ V.cell? ⟨a.th, x * 10, none⟩ = some (.int .i64 t.p) ∧ V.cell? ⟨W.heap.size, 1, none⟩ = some (.int .i64 ar)) ∧ V.cell? ⟨a.th, x * 10 + 1, none⟩ = some (.int .u32 (t.g : Int)) ∧ V.cell? ⟨W.heap.size, 0, none⟩ = some (.int .i64 op)) := fun V M' l' e h => ⟨⟨h.c0, h.core.c7, by rw [← e]; exact (h.tr hx).c0, h.keep hno k1⟩, by rw [← e]; exact (h.tr hx).c1, h.keep hno k0⟩
 obtain ⟨⟨c0, c7, d0, c1⟩, d1, _⟩ := HC.out _ _ _ ht h0
 have H0 := veil h0
 rw [ht] at he
 rw [hres] at he ⊢
 have HRN : Hid (∀ V, SX w W0 V lab a P n q T (lockM M x ar) sb pr l O → Calls Tryz.prog 158 #[.pointer (some ⟨sb, 0, none⟩), .pointer (some ⟨a.th, x * 10, none⟩), .agg #[.int .i64 op, .int .i64 ar], .int .i64 res.1.2] V fun e w' => e = .panicked pOver ∧ SX w W0 w' lab a P n q T (lockM M x ar) sb pr (l ++ [⟨6, (pr : Int), t.p, t.g, op, res.1.2⟩]) O) := fun V h => by
  have := h.ran_no (by omega) x hx op ar res.1.2 he
  rw [htl] at this
  exact this
 clear h0 ht hno
 go_enter Tryz.func156, Tryz.ntmps156
 go_wp2
 rw [HW.out]
 go_region_held3 (fun w' => w'.cell? ⟨sb, 0, none⟩ = some (.pointer (some ⟨a.m, 0, none⟩)) ∧ w'.cell? ⟨a.m, 7, none⟩ = some (.pointer (some ⟨a.gb, 0, none⟩)) ∧ w'.cell? ⟨a.th, x * 10, none⟩ = some (.int .i64 t.p) ∧ w'.cell? ⟨W.heap.size, 1, none⟩ = some (.int .i64 ar))
  (first | exact (HC.out _ _ _ htl HG1.out).1 | go_keep)
  (first
   | (go_at_call 181; refine (HLK.out _ (by exact SX.like H0.out rfl rfl rfl rfl)).mono ?_; rintro e w1 ⟨rfl, hg⟩; have HG1 := veil hg; clear hg))
 (rename_i hHeld; clear hHeld)
 clear c0 c7 d0 c1 d1
 obtain ⟨⟨c0, c7, d0, c1⟩, d1, e0⟩ := HC.out _ _ _ htl HG1.out
 generalize res.1.1 = got at *
 go_wp2_with (first
  | (go_at_call 158; refine (HRN.out _ HG1.out).mono ?_; rintro e w2 ⟨rfl, hg⟩; have HG2 := veil hg; clear hg))
 simp [bodyPost]
 exact HG2.out.ahead HB0.out
set_option maxHeartbeats 4000000 in
theorem SG.lock_got (h : SG w W lab a P n q T M sb pr l O) (hl : l.length ≤ 9000) (hp : pr < P) (x : Nat) (hx : x < n) (op ar : Int) (he : (Pi.lockR M.gr (M.th x).p ar).1 = (true, 0)) :
  Calls Tryz.prog 156 #[.pointer (some ⟨sb, 0, none⟩), .pointer (some ⟨a.th, x * 10, none⟩), .agg #[.int .i64 op, .int .i64 ar]] W fun e w' => e = .panicked pOver ∧ SX w W w' lab a P n q T (lockM M x ar) sb pr (l ++ [⟨5, (pr : Int), (M.th x).p, (M.th x).g, op, 0⟩] ++ [⟨8, (pr : Int), (M.th x).p, (M.th x).g, ar, 0⟩]) O := by
 obtain ⟨t, ht⟩ : ∃ t, M.th x = t := ⟨_, rfl⟩
 rw [ht]
 have hb0 : Below W.heap.size W (W.alloc (.cells #[.int .i64 op, .int .i64 ar] 64)) := (Below.refl _ _).alloc (Nat.le_refl _) _
 have h0 := (h.below hb0).sx
 have hno : ¬ O W.heap.size := fun q => by have := h.lt q; omega
 have k0 := newc W #[.int .i64 op, .int .i64 ar] 64 0 _ rfl
 have k1 := newc W #[.int .i64 op, .int .i64 ar] 64 1 _ rfl
 have HB0 := veil hb0
 clear hb0 h
 generalize hW : W.alloc (.cells #[.int .i64 op, .int .i64 ar] 64) = W0 at *
 have HW := veil hW
 clear hW
 obtain ⟨res, hres⟩ : ∃ res, Pi.lockR M.gr t.p ar = res := ⟨_, rfl⟩
 have HLK : Hid (∀ V, SX w W0 V lab a P n q T M sb pr l O → Calls Tryz.prog 181 #[.pointer (some ⟨a.gb, 0, none⟩), .int .i64 t.p, .int .i64 ar] V fun e w' => e = .returned (.tuple #[.bool res.1.1, .int .i64 res.1.2]) ∧ SX w W0 w' lab a P n q T (lockM M x ar) sb pr l O) := fun V h => by
  unfold lockM
  rw [ht, ← hres]
  exact h.lift (R := fun e => e = _) fun _ i => i.lock t.p ar
 have htl : (lockM M x ar).th x = t := ht
 have HC : Hid (∀ V M' l', M'.th x = t → SX w W0 V lab a P n q T M' sb pr l' O → (V.cell? ⟨sb, 0, none⟩ = some (.pointer (some ⟨a.m, 0, none⟩)) ∧ V.cell? ⟨a.m, 7, none⟩ = some (.pointer (some ⟨a.gb, 0, none⟩)) ∧ V.cell? ⟨a.th, x * 10, none⟩ = some (.int .i64 t.p) ∧ V.cell? ⟨W.heap.size, 1, none⟩ = some (.int .i64 ar)) ∧ V.cell? ⟨a.th, x * 10 + 1, none⟩ = some (.int .u32 (t.g : Int)) ∧ V.cell? ⟨W.heap.size, 0, none⟩ = some (.int .i64 op)) := fun V M' l' e h => ⟨⟨h.c0, h.core.c7, by rw [← e]; exact (h.tr hx).c0, h.keep hno k1⟩, by rw [← e]; exact (h.tr hx).c1, h.keep hno k0⟩
 obtain ⟨⟨c0, c7, d0, c1⟩, d1, _⟩ := HC.out _ _ _ ht h0
 have H0 := veil h0
 rw [ht, hres] at he
 have HRN : Hid (∀ V, SX w W0 V lab a P n q T (lockM M x ar) sb pr l O → Calls Tryz.prog 158 #[.pointer (some ⟨sb, 0, none⟩), .pointer (some ⟨a.th, x * 10, none⟩), .agg #[.int .i64 op, .int .i64 ar], .int .i64 0] V fun e w' => e = .returned (.tuple #[]) ∧ SX w W0 w' lab a P n q T (lockM M x ar) sb pr (l ++ [⟨5, (pr : Int), t.p, t.g, op, 0⟩]) O) := fun V h => by
  have := h.ran_ok (by omega) x hx op ar
  rw [htl] at this
  exact this
 have HEN : Hid (∀ V, SX w W0 V lab a P n q T (lockM M x ar) sb pr (l ++ [⟨5, (pr : Int), t.p, t.g, op, 0⟩]) O → Calls Tryz.prog 123 #[.pointer (some ⟨sb, 0, none⟩), .int .i64 8, .agg #[.int .i64 t.p, .int .u32 (t.g : Int)], .int .i64 ar] V fun e w' => (e = .panicked pOver ∧ SX w W0 w' lab a P n q T (lockM M x ar) sb pr (l ++ [⟨5, (pr : Int), t.p, t.g, op, 0⟩] ++ [⟨8, (pr : Int), t.p, t.g, ar, 0⟩]) O)) := fun V h => h.end_ (by simp; omega) 8 t.p t.g ar
 have eg : res.1.1 = true := by rw [he]
 have ee : res.1.2 = 0 := by rw [he]
 rw [eg, ee] at HLK
 clear eg ee he
 clear h0 ht hno
 go_enter Tryz.func156, Tryz.ntmps156
 go_wp2
 rw [HW.out]
 go_region_held3 (fun w' => w'.cell? ⟨sb, 0, none⟩ = some (.pointer (some ⟨a.m, 0, none⟩)) ∧ w'.cell? ⟨a.m, 7, none⟩ = some (.pointer (some ⟨a.gb, 0, none⟩)) ∧ w'.cell? ⟨a.th, x * 10, none⟩ = some (.int .i64 t.p) ∧ w'.cell? ⟨W.heap.size, 1, none⟩ = some (.int .i64 ar))
  (first | exact (HC.out _ _ _ htl HG1.out).1 | go_keep)
  (first
   | (go_at_call 181; refine (HLK.out _ (by exact SX.like H0.out rfl rfl rfl rfl)).mono ?_; rintro e w1 ⟨rfl, hg⟩; have HG1 := veil hg; clear hg))
 (rename_i hHeld; clear hHeld)
 clear c0 c7 d0 c1 d1
 obtain ⟨⟨c0, c7, d0, c1⟩, d1, e0⟩ := HC.out _ _ _ htl HG1.out
 go_upto_region 4 with (first
  | (go_at_call 158; refine (HRN.out _ HG1.out).mono ?_; rintro e w2 ⟨rfl, hg⟩; have HG2 := veil hg; clear hg))
 clear c0 c7 d0 c1 d1 e0
 obtain ⟨⟨c0, c7, d0, c1⟩, d1, e0⟩ := HC.out _ _ _ htl HG2.out
 refine wp_region_held_drew (S := (fun w' => w'.cell? ⟨a.th, x * 10, none⟩ = some (.int .i64 t.p) ∧ w'.cell? ⟨a.th, x * 10 + 1, none⟩ = some (.int .u32 (t.g : Int)) ∧ w'.cell? ⟨W.heap.size, 1, none⟩ = some (.int .i64 ar))) (by kernel_rfl) ?_ (fun hHeld => ?_)
 ·exact ⟨d0, d1, c1⟩
 refine tkX 0 (v := ?_) rfl ?v0 ?_
 case v0 => (intro w hSw; (try dsimp only at hSw); obtain ⟨hSa, hSb, hSc⟩ := hSw; go_simp; try with_reducible rfl)
 try simp only [puX]
 refine tkX 1 (v := ?_) rfl ?v1 ?_
 case v1 => (intro w hSw; (try dsimp only at hSw); obtain ⟨hSa, hSb, hSc⟩ := hSw; go_simp; try with_reducible rfl)
 try simp only [puX]
 refine tkX 2 (v := ?_) rfl ?v2 ?_
 case v2 => (intro w hSw; (try dsimp only at hSw); obtain ⟨hSa, hSb, hSc⟩ := hSw; go_simp; try with_reducible rfl)
 try simp only [puX]
 refine tkX 3 (v := ?_) rfl ?v3 ?_
 case v3 => (intro w hSw; (try dsimp only at hSw); obtain ⟨hSa, hSb, hSc⟩ := hSw; go_simp; try with_reducible rfl)
 try simp only [puX]
 refine tkX 4 (v := ?_) rfl ?v4 ?_
 case v4 => (intro w hSw; (try dsimp only at hSw); obtain ⟨hSa, hSb, hSc⟩ := hSw; go_simp; try with_reducible rfl)
 try simp only [puX]
 refine tkX 5 (v := ?_) rfl ?v5 ?_
 case v5 => (intro w hSw; (try dsimp only at hSw); obtain ⟨hSa, hSb, hSc⟩ := hSw; go_simp; try with_reducible rfl)
 try simp only [puX]
 refine tkX 6 (v := ?_) rfl ?v6 ?_
 case v6 => (intro w hSw; (try dsimp only at hSw); obtain ⟨hSa, hSb, hSc⟩ := hSw; go_simp; try with_reducible rfl)
 try simp only [puX]
 refine wpAnyH_ready (rs := [7]) (by kernel_rfl) (by simp) ?_
 refine AllReadyH.cons rfl (fun K hK => ?_) AllReadyH.nil
 go_simp
 go_at_call 123
 refine (HEN.out _ (by exact SX.like HG2.out rfl rfl rfl rfl)).mono ?_
 rintro e w3 ⟨rfl, hg⟩
 exact ⟨rfl, rfl, hg.ahead HB0.out⟩
end
end Go.Proofs.YtjlbmmiomfpgiaaGreatDoor
namespace Go.Proofs.YtjlbmmiomfpgiaaGreatDoor
set_option maxRecDepth 100000
open Go.RowKit
set_option linter.unusedVariables false
set_option linter.unusedSimpArgs false
theorem act_catch (older : List PanicEntry) (w : World) :
  CallsD Tryz.prog 73 #[] (.panicking ({ v := .iface 167 (.agg #[]), recovered := false } :: older)) w fun e u' w' =>
   e = .returned (.tuple #[]) ∧ u' = .panicking ({ v := .iface 167 (.agg #[]), recovered := true } :: older) ∧ w' = w := by
 refine callsD_of_wpS Tryz.func73 rfl fun c₀ cs hu => ?_
 apply wpS_seq
 apply wpS_region
 simp [wpOpsS, go_sem, recoverD, hu, Tryz.ntmps73, Exit.thenS]
 refine wpS_of_wp ?_
 have hta : ∀ w, (Instr.typeAssert (.iface 167 (.agg #[])) 20 167 true).run Tryz.prog w = .ok (.tuple #[.agg #[], .bool true]) w := fun w => by kernel_rfl
 have heq : ∀ w, (binOp BinOp.eql 20 (.iface 167 (.agg #[])) .nilIface).run Tryz.prog w = .ok (.bool false) w := fun w => by kernel_rfl
 have ht : (Array.replicate 9 undef).setIfInBounds 2 (Value.iface 167 (.agg #[])) = #[undef, undef, .iface 167 (.agg #[]), undef, undef, undef, undef, undef, undef] := rfl
 rw [ht]
 clear ht
 go_wp2
 cases c₀
 simp_all [bodyPostS, results, Tryz.results73]
theorem act_idle (w : World) :
  CallsD Tryz.prog 73 #[] .returning w fun e u' w' => e = .returned (.tuple #[]) ∧ u' = .returning ∧ w' = w := by
 refine callsD_of_wpS Tryz.func73 rfl fun c₀ cs hu => ?_
 apply wpS_seq
 apply wpS_region
 simp [wpOpsS, go_sem, recoverD, hu, Tryz.ntmps73, Exit.thenS]
 refine wpS_of_wp ?_
 have hta : ∀ w, (Instr.typeAssert .nilIface 20 167 true).run Tryz.prog w = .ok (.tuple #[.agg #[], .bool false]) w := fun w => by kernel_rfl
 have heq : ∀ w, (binOp BinOp.eql 20 .nilIface .nilIface).run Tryz.prog w = .ok (.bool true) w := fun w => by kernel_rfl
 have ht : (Array.replicate 9 undef).setIfInBounds 2 Value.nilIface = #[undef, undef, .nilIface, undef, undef, undef, undef, undef, undef] := rfl
 rw [ht]
 clear ht
 go_wp2
 cases c₀
 simp_all [bodyPostS, results, Tryz.results73]
end Go.Proofs.YtjlbmmiomfpgiaaGreatDoor
namespace Go.Proofs.YtjlbmmiomfpgiaaGreatDoor
set_option maxRecDepth 100000
open Go.RowKit
set_option linter.unusedVariables false
set_option linter.unusedSimpArgs false
section
variable {W : World} {sb : Nat} {d : Int} {P1 P2 P3 : World → Prop}
theorem act_takes (hg : Calls Tryz.prog 74 #[.pointer (some ⟨sb, 0, none⟩), .int .u64 d] W fun e w' => e = .returned (.tuple #[]) ∧ P1 w')
  (ht : ∀ V, P1 V → Calls Tryz.prog 75 #[.pointer (some ⟨sb, 0, none⟩), .int .u64 d] V fun e w' => e = .panicked pOver ∧ P2 w') :
  Calls Tryz.prog 39 #[.pointer (some ⟨sb, 0, none⟩), .int .u64 d] W fun e w' => e = .returned (.tuple #[]) ∧ P2 w' := by
 have hmf : ∀ (fn : Fn) (first cap : Array Value) (w : World), (Instr.makeFunc fn first cap).run Tryz.prog w = .ok (.func fn first cap) w := fun _ _ _ _ => rfl
 have HG := veil hg
 have HT := veil ht
 clear hg ht
 go_enter_defers Tryz.func39, Tryz.ntmps39
 go_wp2_with (first
  | (go_at_call 74; refine (HG.out).mono ?_; rintro e w1 ⟨rfl, h1⟩; have H1 := veil h1; clear h1)
  | (go_at_call 75; refine (HT.out _ H1.out).mono ?_; rintro e w2 ⟨rfl, h2⟩; have H2 := veil h2; clear h2))
 refine leaves_cons (f := 73) (args := #[]) (by simp) (by simp [go_sem]) ?_
 refine (act_catch [] _).mono ?_
 rintro e u' w'' ⟨rfl, rfl, hw⟩
 simp [Go.Leaves, Go.settle, results, Tryz.results39, go_sem]
 rw [hw]
 exact H2.out
theorem act_goes (hg : Calls Tryz.prog 74 #[.pointer (some ⟨sb, 0, none⟩), .int .u64 d] W fun e w' => e = .returned (.tuple #[]) ∧ P1 w')
  (ht : ∀ V, P1 V → Calls Tryz.prog 75 #[.pointer (some ⟨sb, 0, none⟩), .int .u64 d] V fun e w' => e = .returned (.tuple #[]) ∧ P2 w')
  (ho : ∀ V, P2 V → Calls Tryz.prog 76 #[.pointer (some ⟨sb, 0, none⟩)] V fun e w' => e = .panicked pOver ∧ P3 w') :
  Calls Tryz.prog 39 #[.pointer (some ⟨sb, 0, none⟩), .int .u64 d] W fun e w' => e = .returned (.tuple #[]) ∧ P3 w' := by
 have hmf : ∀ (fn : Fn) (first cap : Array Value) (w : World), (Instr.makeFunc fn first cap).run Tryz.prog w = .ok (.func fn first cap) w := fun _ _ _ _ => rfl
 have HG := veil hg
 have HT := veil ht
 have HO := veil ho
 clear hg ht ho
 go_enter_defers Tryz.func39, Tryz.ntmps39
 go_wp2_with (first
  | (go_at_call 74; refine (HG.out).mono ?_; rintro e w1 ⟨rfl, h1⟩; have H1 := veil h1; clear h1)
  | (go_at_call 75; refine (HT.out _ H1.out).mono ?_; rintro e w2 ⟨rfl, h2⟩; have H2 := veil h2; clear h2)
  | (go_at_call 76; refine (HO.out _ H2.out).mono ?_; rintro e w3 ⟨rfl, h3⟩; have H3 := veil h3; clear h3))
 refine leaves_cons (f := 73) (args := #[]) (by simp) (by simp [go_sem]) ?_
 refine (act_catch [] _).mono ?_
 rintro e u' w'' ⟨rfl, rfl, hw⟩
 simp [Go.Leaves, Go.settle, results, Tryz.results39, go_sem]
 rw [hw]
 exact H3.out
theorem act_all (hg : Calls Tryz.prog 74 #[.pointer (some ⟨sb, 0, none⟩), .int .u64 d] W fun e w' => e = .returned (.tuple #[]) ∧ P1 w')
  (ht : ∀ V, P1 V → Calls Tryz.prog 75 #[.pointer (some ⟨sb, 0, none⟩), .int .u64 d] V fun e w' => e = .returned (.tuple #[]) ∧ P2 w')
  (ho : ∀ V, P2 V → Calls Tryz.prog 76 #[.pointer (some ⟨sb, 0, none⟩)] V fun e w' => e = .returned (.tuple #[]) ∧ P3 w') :
  Calls Tryz.prog 39 #[.pointer (some ⟨sb, 0, none⟩), .int .u64 d] W fun e w' => e = .returned (.tuple #[]) ∧ P3 w' := by
 have hmf : ∀ (fn : Fn) (first cap : Array Value) (w : World), (Instr.makeFunc fn first cap).run Tryz.prog w = .ok (.func fn first cap) w := fun _ _ _ _ => rfl
 have HG := veil hg
 have HT := veil ht
 have HO := veil ho
 clear hg ht ho
 go_enter_defers Tryz.func39, Tryz.ntmps39
 go_wp2_with (first
  | (go_at_call 74; refine (HG.out).mono ?_; rintro e w1 ⟨rfl, h1⟩; have H1 := veil h1; clear h1)
  | (go_at_call 75; refine (HT.out _ H1.out).mono ?_; rintro e w2 ⟨rfl, h2⟩; have H2 := veil h2; clear h2)
  | (go_at_call 76; refine (HO.out _ H2.out).mono ?_; rintro e w3 ⟨rfl, h3⟩; have H3 := veil h3; clear h3))
 refine leaves_cons (f := 73) (args := #[]) (by simp) (by simp [go_sem]) ?_
 refine (act_idle _).mono ?_
 rintro e u' w'' ⟨rfl, rfl, hw⟩
 simp [Go.Leaves, Go.settle, results, Tryz.results39, go_sem]
 rw [hw]
 exact H3.out
end
end Go.Proofs.YtjlbmmiomfpgiaaGreatDoor
namespace Go.Proofs.YtjlbmmiomfpgiaaGreatDoor
set_option maxRecDepth 100000
open Go.RowKit
set_option linter.unusedVariables false
set_option linter.unusedSimpArgs false
section
variable {w W W' : World} {lab labk : Nat → Nat} {a : Ad} {P n q T T' : Nat} {M M' : Mc} {sb pr : Nat} {l : List Ev} {O O0 : Nat → Prop} {W0 : World}
theorem SG.start (h : IsMc w lab a P n q T M) (pr : Nat) : ∃ O, SG w (w.alloc (.cells #[.pointer (some ⟨a.m, 0, none⟩), .int .i64 (pr : Int), .pointer (some ⟨a.pr, pr * 3, none⟩), .slice none 0 0] 104)) lab a P n q T M w.heap.size pr [] O := by
 have A := h.at0.new (.cells #[.pointer (some ⟨a.m, 0, none⟩), .int .i64 (pr : Int), .pointer (some ⟨a.pr, pr * 3, none⟩), .slice none 0 0] 104)
 exact ⟨_, lab, .slice none 0 0, ⟨A, newc _ _ _ 0 _ rfl, newc _ _ _ 1 _ rfl, newc _ _ _ 2 _ rfl, newc _ _ _ 3 _ rfl, EvL.nil _ _, (fun k e => by cases e), fun o => Gt.frozen_new _ _ _ _, h.fresh (Nat.le_refl _), Nat.le_refl _⟩, fun _ => Iff.rfl⟩
theorem buildSt (x y : Addr) (p : Int) (w : World) : (Instr.build 104 #[(0, .pointer (some x)), (1, .int .i64 p), (2, .pointer (some y))]).run Tryz.prog w = .ok (.agg #[.pointer (some x), .int .i64 p, .pointer (some y), .slice none 0 0]) w := run_build w 104 _ _ (by kernel_rfl)
end
end Go.Proofs.YtjlbmmiomfpgiaaGreatDoor
