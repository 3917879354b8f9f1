/-
  The walks of a queue's own two calls that tie a spot behind a level's last one and take one out, and what they leave: only the queue's two blocks are turned.
-/
import Derived.Test.YtbefehoegmmgpaaQ2
import Derived.WalkSpells
import Derived.WalkLawsBesides
import Derived.StillTactics
import Derived.RegionTactic
import Derived.RowKit3
namespace Go.Proofs.Ytbefehoegmmgpaa.Bq
open Go.RowKit

/-- Of what was there only the blocks b and g may have turned. -/
structure Only (b g : Nat) (w w' : World) : Prop where
  os : w'.os = w.os
  tape : w'.tape = w.tape
  output : w'.output = w.output
  size : w.heap.size ≤ w'.heap.size
  block : ∀ k, k < w.heap.size → k ≠ b → k ≠ g → w'.heap[k]? = w.heap[k]?
theorem Only.refl (b g : Nat) (w : World) : Only b g w w := ⟨rfl, rfl, rfl, Nat.le_refl _, fun _ _ _ _ => rfl⟩
theorem Only.trans {b g : Nat} {w1 w2 w3 : World} (h : Only b g w1 w2) (k : Only b g w2 w3) : Only b g w1 w3 :=
  ⟨k.os.trans h.os, k.tape.trans h.tape, k.output.trans h.output, Nat.le_trans h.size k.size, fun i hi a c => (k.block i (Nat.lt_of_lt_of_le hi h.size) a c).trans (h.block i hi a c)⟩
theorem Only.drew {b g : Nat} {w w' : World} (h : Only b g w w') : Only b g w w'.drew := ⟨h.os, h.tape, h.output, h.size, h.block⟩
theorem Only.alloc {b g : Nat} {w w' : World} (h : Only b g w w') (o : Obj) : Only b g w (w'.alloc o) :=
  ⟨h.os, h.tape, h.output, Nat.le_trans h.size (by simp), fun k hk a c => by rw [Below.heap_alloc _ _ _ (Nat.lt_of_lt_of_le hk h.size)]; exact h.block k hk a c⟩
theorem Only.set {b g : Nat} {w w' : World} (h : Only b g w w') (p : Addr) (x : Value) (hp : p.block = b ∨ p.block = g) : Only b g w (w'.setCell p x) :=
  ⟨h.os, h.tape, h.output, by simp [World.setCell]; exact h.size, fun k hk a c => by rw [Below.heap_setCell _ _ _ _ (by rcases hp with e | e <;> omega)]; exact h.block k hk a c⟩
theorem Only.below {b g z : Nat} {w w' : World} (h : Only b g w w') (hb : z ≤ b) (hg : z ≤ g) (hz : z ≤ w.heap.size) : Below z w w' :=
  ⟨h.os, h.tape, h.output, h.size, fun k hk => h.block k (by omega) (by omega) (by omega)⟩

def orBit (m : Int) (lv : Nat) : Int := bits BinOp.or IntKind.u64 m (IntKind.u64.wrap (2 ^ (lv % 64)))

section
variable {w : World} {b g n : Nat} {F L : Nat → Nat} {M : Nat → Int} {c : Nat} {A B V : Nat → Nat} {T : Nat → Bool}
set_option maxHeartbeats 1000000 in
/-- A level that had nobody. -/
theorem tie_first (h : Rep w b g n F L M c A B V T) (lv sp : Nat) (hlv : lv < 256) (hsp : sp ≤ n) (_hn : n ≤ 1024) (hc : c ≤ 1024) (h0 : L lv = 0) :
    Calls Try.prog 81 #[.pointer (some ⟨b, 0, none⟩), .int .u8 lv, .int .i64 sp] w fun e w' => e = .returned (.tuple #[]) ∧
      Rep w' b g n (upd F lv sp) (upd L lv sp) (upd M (lv / 64) (orBit (M (lv / 64)) lv)) (c + 1) (upd A sp 0) (upd B sp 0) (upd V sp lv) (upd T sp true) ∧ Only b g w w' := by
  have H : Hid (Rep w b g n F L M c A B V T) := h
  have e1 := h.lst lv hlv
  rw [h0] at e1
  have e1' : w.cell? ⟨b, 256 + lv, none⟩ = some (.int .i64 0) := e1
  have e2 := h.fst lv hlv
  obtain ⟨cp, e3⟩ := h.sl
  have e4 := h.cn
  have e5 := h.msk (lv / 64) (by omega)
  have e6 := h.la sp hsp
  have e7 := h.lb sp hsp
  have e8 := h.lv sp hsp
  have e9 := h.lt sp hsp
  have fb := h.fb
  have fg := h.fg
  have hbg := h.bg
  have hgb : g ≠ b := fun e => hbg e.symm
  clear e1 h h0
  go_enter Try.func81, Try.ntmps81
  go_wp2
  go_region
  go_wp2
  go_end0
  refine ⟨rfl, ?_, ?_⟩
  · exact ((((((((H.out.setA sp hsp 0).setB sp hsp 0).setV sp hsp lv).setT sp hsp true).setF lv hlv sp).setM (lv / 64) (by omega) _).setL lv hlv sp).setC (c + 1)).drew
  · exact ((((((((((Only.refl b g w).set _ _ (Or.inr rfl)).set _ _ (Or.inr rfl)).set _ _ (Or.inr rfl)).set _ _ (Or.inr rfl)).set _ _ (Or.inl rfl)).set _ _ (Or.inl rfl)).set _ _ (Or.inl rfl)).set _ _ (Or.inl rfl))).drew

set_option maxHeartbeats 1000000 in
/-- A level that had somebody: la is the last one. -/
theorem tie_more (h : Rep w b g n F L M c A B V T) (lv sp la : Nat) (hlv : lv < 256) (hsp : sp ≤ n) (_hn : n ≤ 1024) (hc : c ≤ 1024) (h0 : L lv = la) (h1 : 1 ≤ la) (h2 : la ≤ n) (h3 : la ≠ sp) :
    Calls Try.prog 81 #[.pointer (some ⟨b, 0, none⟩), .int .u8 lv, .int .i64 sp] w fun e w' => e = .returned (.tuple #[]) ∧
      Rep w' b g n F (upd L lv sp) M (c + 1) (upd A sp la) (upd (upd B sp 0) la sp) (upd V sp lv) (upd T sp true) ∧ Only b g w w' := by
  have H : Hid (Rep w b g n F L M c A B V T) := h
  have e1 := h.lst lv hlv
  rw [h0] at e1
  have e2 := h.fst lv hlv
  obtain ⟨cp, e3⟩ := h.sl
  have e4 := h.cn
  have e6 := h.la sp hsp
  have e7 := h.lb sp hsp
  have e8 := h.lv sp hsp
  have e9 := h.lt sp hsp
  have e10 := h.lb la h2
  have fb := h.fb
  have fg := h.fg
  have hbg := h.bg
  have hgb : g ≠ b := fun e => hbg e.symm
  have hne : ((la : Int) == 0) = false := by rw [beq_eq_false_iff_ne]; omega
  have n0 : ¬ sp * 4 = la * 4 + 1 := by omega
  have n1 : ¬ sp * 4 + 1 = la * 4 + 1 := by omega
  have n2 : ¬ sp * 4 + 2 = la * 4 + 1 := by omega
  have n3 : ¬ sp * 4 + 3 = la * 4 + 1 := by omega
  clear h h0
  go_enter Try.func81, Try.ntmps81
  go_wp2
  go_end0
  refine ⟨rfl, ?_, ?_⟩
  · exact (((((((H.out.setA sp hsp la).setB sp hsp 0).setV sp hsp lv).setT sp hsp true).setB la h2 sp).setL lv hlv sp).setC (c + 1))
  · exact ((((((((Only.refl b g w).set _ _ (Or.inr rfl)).set _ _ (Or.inr rfl)).set _ _ (Or.inr rfl)).set _ _ (Or.inr rfl)).set _ _ (Or.inr rfl)).set _ _ (Or.inl rfl)).set _ _ (Or.inl rfl))
def andBit (m : Int) (lv : Nat) : Int := bits BinOp.andNot IntKind.u64 m (IntKind.u64.wrap (2 ^ (lv % 64)))

set_option maxHeartbeats 1000000 in
/-- The only one of its level. -/
theorem untie_only (h : Rep w b g n F L M (c + 1) A B V T) (sp lv : Nat) (hsp : sp ≤ n) (hlv : lv < 256) (_hn : n ≤ 1024) (hc : c ≤ 1024) (hA : A sp = 0) (hB : B sp = 0) (hV : V sp = lv) :
    Calls Try.prog 69 #[.pointer (some ⟨b, 0, none⟩), .int .i64 sp] w fun e w' => e = .returned (.tuple #[]) ∧
      Rep w' b g n (upd F lv 0) (upd L lv 0) (upd M (lv / 64) (andBit (M (lv / 64)) lv)) c (upd A sp 0) (upd B sp 0) (upd V sp 0) (upd T sp false) ∧ Only b g w w' := by
  have H : Hid (Rep w b g n F L M (c + 1) A B V T) := h
  obtain ⟨cp, e1⟩ := h.sl
  have e2 : w.cell? ⟨b, 517, none⟩ = some (.int .i64 ((c : Int) + 1)) := h.cn
  have e3 := h.la sp hsp
  have e4 := h.lb sp hsp
  have e5 := h.lv sp hsp
  have e6 := h.lt sp hsp
  rw [hA] at e3
  rw [hB] at e4
  rw [hV] at e5
  have e7 := h.fst lv hlv
  have e8 := h.lst lv hlv
  have e9 := h.msk (lv / 64) (by omega)
  have fb := h.fb
  have fg := h.fg
  have hbg := h.bg
  have hgb : g ≠ b := fun e => hbg e.symm
  have zb := h.lt_b
  have zg := h.lt_g
  have yb : ¬ b = w.heap.size := by omega
  have yg : ¬ g = w.heap.size := by omega
  have e3' : w.cell? ⟨g, sp * 4, none⟩ = some (.int .i64 0) := e3
  have e4' : w.cell? ⟨g, sp * 4 + 1, none⟩ = some (.int .i64 0) := e4
  clear h hA hB hV e3 e4
  go_enter Try.func69, Try.ntmps69
  go_wp2
  go_region
  go_wp2
  go_region
  go_wp2
  go_region
  go_wp2
  go_region
  go_wp2
  go_end0
  refine ⟨rfl, ?_, ?_⟩
  · exact ((((((((((H.out.setF lv hlv 0).setL lv hlv 0).setM (lv / 64) (by omega) _).setA sp hsp 0).setB sp hsp 0).setV sp hsp 0).setT sp hsp false).setC c)).alloc _).drew.drew.drew.drew
  · exact ((((((((((Only.refl b g w).set _ _ (Or.inl rfl)).set _ _ (Or.inl rfl)).set _ _ (Or.inl rfl)).set _ _ (Or.inr rfl)).set _ _ (Or.inr rfl)).set _ _ (Or.inr rfl)).set _ _ (Or.inr rfl)).set _ _ (Or.inl rfl)).alloc _).drew.drew.drew.drew

set_option maxHeartbeats 1000000 in
/-- The first one of its level, y behind it. -/
theorem untie_head (h : Rep w b g n F L M (c + 1) A B V T) (sp lv : Nat) (hsp : sp ≤ n) (hlv : lv < 256) (_hn : n ≤ 1024) (hc : c ≤ 1024) (y : Nat) (hA : A sp = 0) (hB : B sp = y) (hV : V sp = lv) (hy : y ≤ n) (hy1 : 1 ≤ y) (hys : y ≠ sp) :
    Calls Try.prog 69 #[.pointer (some ⟨b, 0, none⟩), .int .i64 sp] w fun e w' => e = .returned (.tuple #[]) ∧
      Rep w' b g n (upd F lv y) L M c (upd (upd A y 0) sp 0) (upd B sp 0) (upd V sp 0) (upd T sp false) ∧ Only b g w w' := by
  have H : Hid (Rep w b g n F L M (c + 1) A B V T) := h
  obtain ⟨cp, e1⟩ := h.sl
  have e2 : w.cell? ⟨b, 517, none⟩ = some (.int .i64 ((c : Int) + 1)) := h.cn
  have e3 := h.la sp hsp
  have e4 := h.lb sp hsp
  have e5 := h.lv sp hsp
  have e6 := h.lt sp hsp
  rw [hA] at e3
  rw [hB] at e4
  rw [hV] at e5
  have e7 := h.fst lv hlv
  have e8 := h.lst lv hlv
  have e9 := h.msk (lv / 64) (by omega)
  have fb := h.fb
  have fg := h.fg
  have hbg := h.bg
  have hgb : g ≠ b := fun e => hbg e.symm
  have zb := h.lt_b
  have zg := h.lt_g
  have yb : ¬ b = w.heap.size := by omega
  have yg : ¬ g = w.heap.size := by omega
  have ny : ((y : Int) == 0) = false := by rw [beq_eq_false_iff_ne]; omega
  have y0 : ¬ y * 4 = sp * 4 := by omega
  have y1 : ¬ y * 4 = sp * 4 + 1 := by omega
  have y2 : ¬ y * 4 = sp * 4 + 2 := by omega
  have y3 : ¬ y * 4 = sp * 4 + 3 := by omega
  have ey := h.la y hy
  have e3' : w.cell? ⟨g, sp * 4, none⟩ = some (.int .i64 0) := e3
  clear h hA hB hV e3
  go_enter Try.func69, Try.ntmps69
  go_wp2
  go_region
  go_wp2
  go_region
  go_wp2
  go_region
  go_wp2
  go_end0
  refine ⟨rfl, ?_, ?_⟩
  · exact (((((((((H.out.setF lv hlv y).setA y hy 0).setA sp hsp 0).setB sp hsp 0).setV sp hsp 0).setT sp hsp false).setC c)).alloc _).drew.drew.drew
  · exact (((((((((Only.refl b g w).set _ _ (Or.inl rfl)).set _ _ (Or.inr rfl)).set _ _ (Or.inr rfl)).set _ _ (Or.inr rfl)).set _ _ (Or.inr rfl)).set _ _ (Or.inr rfl)).set _ _ (Or.inl rfl)).alloc _).drew.drew.drew

set_option maxHeartbeats 1000000 in
/-- The last one of its level, x ahead of it. -/
theorem untie_last (h : Rep w b g n F L M (c + 1) A B V T) (sp lv : Nat) (hsp : sp ≤ n) (hlv : lv < 256) (_hn : n ≤ 1024) (hc : c ≤ 1024) (x f : Nat) (hA : A sp = x) (hB : B sp = 0) (hV : V sp = lv) (hF : F lv = f) (hf : 1 ≤ f) (hx : x ≤ n) (hx1 : 1 ≤ x) (hxs : x ≠ sp) :
    Calls Try.prog 69 #[.pointer (some ⟨b, 0, none⟩), .int .i64 sp] w fun e w' => e = .returned (.tuple #[]) ∧
      Rep w' b g n F (upd L lv x) M c (upd A sp 0) (upd (upd B x 0) sp 0) (upd V sp 0) (upd T sp false) ∧ Only b g w w' := by
  have H : Hid (Rep w b g n F L M (c + 1) A B V T) := h
  obtain ⟨cp, e1⟩ := h.sl
  have e2 : w.cell? ⟨b, 517, none⟩ = some (.int .i64 ((c : Int) + 1)) := h.cn
  have e3 := h.la sp hsp
  have e4 := h.lb sp hsp
  have e5 := h.lv sp hsp
  have e6 := h.lt sp hsp
  rw [hA] at e3
  rw [hB] at e4
  rw [hV] at e5
  have e7 := h.fst lv hlv
  have e8 := h.lst lv hlv
  have e9 := h.msk (lv / 64) (by omega)
  have fb := h.fb
  have fg := h.fg
  have hbg := h.bg
  have hgb : g ≠ b := fun e => hbg e.symm
  have zb := h.lt_b
  have zg := h.lt_g
  have yb : ¬ b = w.heap.size := by omega
  have yg : ¬ g = w.heap.size := by omega
  have nx : ((x : Int) == 0) = false := by rw [beq_eq_false_iff_ne]; omega
  have x0 : ¬ x * 4 + 1 = sp * 4 := by omega
  have x1 : ¬ x * 4 + 1 = sp * 4 + 1 := by omega
  have x2 : ¬ x * 4 + 1 = sp * 4 + 2 := by omega
  have x3 : ¬ x * 4 + 1 = sp * 4 + 3 := by omega
  have ex := h.lb x hx
  have nf : ((f : Int) == 0) = false := by rw [beq_eq_false_iff_ne]; omega
  rw [hF] at e7
  have e4' : w.cell? ⟨g, sp * 4 + 1, none⟩ = some (.int .i64 0) := e4
  clear h hA hB hV hF e4
  go_enter Try.func69, Try.ntmps69
  go_wp2
  go_region
  go_wp2
  go_region
  go_wp2
  go_region
  go_wp2
  go_end0
  refine ⟨rfl, ?_, ?_⟩
  · exact (((((((((H.out.setB x hx 0).setL lv hlv x).setA sp hsp 0).setB sp hsp 0).setV sp hsp 0).setT sp hsp false).setC c)).alloc _).drew.drew.drew
  · exact (((((((((Only.refl b g w).set _ _ (Or.inr rfl)).set _ _ (Or.inl rfl)).set _ _ (Or.inr rfl)).set _ _ (Or.inr rfl)).set _ _ (Or.inr rfl)).set _ _ (Or.inr rfl)).set _ _ (Or.inl rfl)).alloc _).drew.drew.drew

set_option maxHeartbeats 1000000 in
/-- One between two others, x ahead of it and y behind it. -/
theorem untie_mid (h : Rep w b g n F L M (c + 1) A B V T) (sp lv : Nat) (hsp : sp ≤ n) (hlv : lv < 256) (_hn : n ≤ 1024) (hc : c ≤ 1024) (x y f : Nat) (hA : A sp = x) (hB : B sp = y) (hV : V sp = lv) (hF : F lv = f) (hf : 1 ≤ f) (hx : x ≤ n) (hx1 : 1 ≤ x) (hxs : x ≠ sp) (hy : y ≤ n) (hy1 : 1 ≤ y) (hys : y ≠ sp) :
    Calls Try.prog 69 #[.pointer (some ⟨b, 0, none⟩), .int .i64 sp] w fun e w' => e = .returned (.tuple #[]) ∧
      Rep w' b g n F L M c (upd (upd A y x) sp 0) (upd (upd B x y) sp 0) (upd V sp 0) (upd T sp false) ∧ Only b g w w' := by
  have H : Hid (Rep w b g n F L M (c + 1) A B V T) := h
  obtain ⟨cp, e1⟩ := h.sl
  have e2 : w.cell? ⟨b, 517, none⟩ = some (.int .i64 ((c : Int) + 1)) := h.cn
  have e3 := h.la sp hsp
  have e4 := h.lb sp hsp
  have e5 := h.lv sp hsp
  have e6 := h.lt sp hsp
  rw [hA] at e3
  rw [hB] at e4
  rw [hV] at e5
  have e7 := h.fst lv hlv
  have e8 := h.lst lv hlv
  have e9 := h.msk (lv / 64) (by omega)
  have fb := h.fb
  have fg := h.fg
  have hbg := h.bg
  have hgb : g ≠ b := fun e => hbg e.symm
  have zb := h.lt_b
  have zg := h.lt_g
  have yb : ¬ b = w.heap.size := by omega
  have yg : ¬ g = w.heap.size := by omega
  have ny : ((y : Int) == 0) = false := by rw [beq_eq_false_iff_ne]; omega
  have y0 : ¬ y * 4 = sp * 4 := by omega
  have y1 : ¬ y * 4 = sp * 4 + 1 := by omega
  have y2 : ¬ y * 4 = sp * 4 + 2 := by omega
  have y3 : ¬ y * 4 = sp * 4 + 3 := by omega
  have ey := h.la y hy
  have nx : ((x : Int) == 0) = false := by rw [beq_eq_false_iff_ne]; omega
  have x0 : ¬ x * 4 + 1 = sp * 4 := by omega
  have x1 : ¬ x * 4 + 1 = sp * 4 + 1 := by omega
  have x2 : ¬ x * 4 + 1 = sp * 4 + 2 := by omega
  have x3 : ¬ x * 4 + 1 = sp * 4 + 3 := by omega
  have ex := h.lb x hx
  have nf : ((f : Int) == 0) = false := by rw [beq_eq_false_iff_ne]; omega
  rw [hF] at e7
  have xy : ¬ x * 4 + 1 = y * 4 := by omega
  clear h hA hB hV hF
  go_enter Try.func69, Try.ntmps69
  go_wp2
  go_region
  go_wp2
  go_region
  go_wp2
  go_region
  go_wp2
  go_end0
  refine ⟨rfl, ?_, ?_⟩
  · exact (((((((((H.out.setB x hx y).setA y hy x).setA sp hsp 0).setB sp hsp 0).setV sp hsp 0).setT sp hsp false).setC c)).alloc _).drew.drew.drew
  · exact (((((((((Only.refl b g w).set _ _ (Or.inr rfl)).set _ _ (Or.inr rfl)).set _ _ (Or.inr rfl)).set _ _ (Or.inr rfl)).set _ _ (Or.inr rfl)).set _ _ (Or.inr rfl)).set _ _ (Or.inl rfl)).alloc _).drew.drew.drew

end
end Go.Proofs.Ytbefehoegmmgpaa.Bq
