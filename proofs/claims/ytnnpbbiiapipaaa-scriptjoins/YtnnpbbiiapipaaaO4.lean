/-
  prog: tell and Encode walked.
-/
import Derived.Test.YtnnpbbiiapipaaaO3
namespace Go.Proofs.Ytnnpbbiiapipaaa
open Go.RowKit Go.Lib

theorem info_u8 : (Try.prog.info? 5).map (fun i => (i.zero, i.size, i.bytes)) = some (some (.int .u8 0), 1, 1) := by kernel_rfl
theorem cell_one_new (w : World) (v : Value) (t : TypeId) : ∀ j u, [v][j]? = some u → (w.alloc (.cells #[v] t)).cell? ((⟨w.heap.size, 0, none⟩ : Addr).add j) = some u := by
  intro j u h
  match j, h with
  | 0, h =>
    simp at h
    subst h
    have e : ((⟨w.heap.size, 0, none⟩ : Addr).add 0) = ⟨w.heap.size, 0, none⟩ := rfl
    rw [e]
    unfold World.cell?
    simp only [(MapKept.heap_alloc w (.cells #[v] t)).1]
    rfl

/-- A number's last byte. -/
def lowByte (n : Nat) : Value := .int .u8 ((n % 256 : Nat) : Int)

theorem tell1 (w : World) (base : Nat) (v : Value) (n : Nat) (xs : List Value) (hn : n < 100000) (h : w.ownsRow base 5 1 v n xs) (hb : base ≤ w.heap.size) (N : Nat) (hN : N < 256) :
    Calls Try.prog 46 #[v, .int .i64 (N : Int), .int .i64 1] w fun e w' => ∃ v', e = .returned v' ∧ w'.ownsRow base 5 1 v' (n + 1) (xs ++ [.int .u8 (N : Int)]) ∧ w.grownBy w' v.ownBlock := by
  obtain ⟨i0, hi, hz0, hz1, hz2⟩ := info_parts info_u8
  have HO := veil h
  clear h
  go_enter Try.func46, Try.ntmps46
  go_wp2
  go_loopw [0, 7] (fun s i wr => (s = v ∧ i = .int .i64 0 ∧ wr = w) ∨ (i = .int .i64 (-1) ∧ wr.ownsRow base 5 1 s (n + 1) (xs ++ [.int .u8 (N : Int)]) ∧ w.grownBy wr v.ownBlock)) (fun _ i _ => (intOf i + 1).toNat)
  case atStart => exact .inl ⟨rfl, rfl, rfl⟩
  case round =>
    rcases hrel with ⟨rfl, rfl, rfl⟩ | ⟨rfl, ho, hg⟩
    · go_wp2_with (at_builtin; go_loud (refine wpList_append_own _ rfl _ _ 24 rfl base 5 i0 (.int .u8 0) 1 1 Try.underlying24 hi hz0 hz1 hz2 rfl (by decide) _ _ _ rfl (World.ownsRow.alloc HO.out _) ⟨wr.heap.size, 0, none⟩ 1 1 [.int .u8 (N : Int)] rfl rfl (cell_one_new _ _ _) (by simp [Value.oneCell']) (by unfold maxLen; omega) (by omega) (by simp; omega) ?_); intro v' w1 hown' hgrow _; have HO1 := veil hown'; have HG := veil hgrow; clear hown' hgrow)
      exact ⟨.inr ⟨rfl, HO1.out, (World.grownBy_alloc _ _ _).trans HG.out⟩, by decide⟩
    · have HO1 := veil ho
      have HG := veil hg
      clear ho hg
      go_wp2
      go_ret
      exact ⟨_, rfl, HO1.out, HG.out⟩

set_option maxRecDepth 100000 in
theorem tell3 (w : World) (base : Nat) (v : Value) (n : Nat) (xs : List Value) (hn : n < 100000) (h : w.ownsRow base 5 1 v n xs) (hb : base ≤ w.heap.size) (N : Nat) (hN : N < 16777216) :
    Calls Try.prog 46 #[v, .int .i64 (N : Int), .int .i64 3] w fun e w' => ∃ v', e = .returned v' ∧ w'.ownsRow base 5 1 v' (n + 3) (xs ++ [lowByte (N / 65536), lowByte (N / 256), lowByte N]) ∧ Below base w w' := by
  obtain ⟨i0, hi, hz0, hz1, hz2⟩ := info_parts info_u8
  have HO := veil h
  clear h
  go_enter Try.func46, Try.ntmps46
  go_wp2
  go_loopw [0, 7] (fun s i wr => ∃ (k : Nat) (ys : List Value), ((k = 0 ∧ i = .int .i64 2 ∧ ys = xs) ∨ (k = 1 ∧ i = .int .i64 1 ∧ ys = xs ++ [lowByte (N / 65536)]) ∨ (k = 2 ∧ i = .int .i64 0 ∧ ys = xs ++ [lowByte (N / 65536), lowByte (N / 256)]) ∨ (k = 3 ∧ i = .int .i64 (-1) ∧ ys = xs ++ [lowByte (N / 65536), lowByte (N / 256), lowByte N])) ∧ wr.ownsRow base 5 1 s (n + k) ys ∧ Below base w wr ∧ base ≤ wr.heap.size) (fun _ i _ => (intOf i + 1).toNat)
  case atStart => exact ⟨0, xs, .inl ⟨rfl, rfl, rfl⟩, HO.out, Below.refl _ _, hb⟩
  case round =>
    obtain ⟨k, ys, hk, ho, hg, hsz⟩ := hrel
    have HO1 := veil ho
    have HB := veil hg
    clear ho hg HO
    rcases hk with ⟨rfl, rfl, rfl⟩ | ⟨rfl, rfl, rfl⟩ | ⟨rfl, rfl, rfl⟩ | ⟨rfl, rfl, rfl⟩
    · go_wp2_with (at_builtin; refine wpList_append_own _ rfl _ _ 24 rfl base 5 i0 (.int .u8 0) 1 1 Try.underlying24 hi hz0 hz1 hz2 rfl (by decide) _ _ _ rfl (World.ownsRow.alloc HO1.out _) ⟨wr.heap.size, 0, none⟩ 1 1 [_] rfl rfl (cell_one_new _ _ _) (by simp [Value.oneCell']) (by unfold maxLen; omega) (by omega) (by simp; omega) ?_; intro v' w1 hown' hgrow _; have HO2 := veil hown'; have HG := veil ((HB.out.alloc hsz _).grown hgrow (Nat.le_trans hsz (by simp)) (fun k hk => (HO1.out.lt k hk).1)); clear hown' hgrow)
      have e1 : Value.int .u8 ((N : Int) / 65536) = lowByte (N / 65536) := by unfold lowByte; congr 1; omega
      have HO3 := HO2.out
      rw [e1] at HO3
      exact ⟨⟨1, _, .inr (.inl ⟨rfl, rfl, rfl⟩), HO3, HG.out, Nat.le_trans hb HG.out.size⟩, by decide⟩
    · go_wp2_with (at_builtin; refine wpList_append_own _ rfl _ _ 24 rfl base 5 i0 (.int .u8 0) 1 1 Try.underlying24 hi hz0 hz1 hz2 rfl (by decide) _ _ _ rfl (World.ownsRow.alloc HO1.out _) ⟨wr.heap.size, 0, none⟩ 1 1 [_] rfl rfl (cell_one_new _ _ _) (by simp [Value.oneCell']) (by unfold maxLen; omega) (by omega) (by simp; omega) ?_; intro v' w1 hown' hgrow _; have HO2 := veil hown'; have HG := veil ((HB.out.alloc hsz _).grown hgrow (Nat.le_trans hsz (by simp)) (fun k hk => (HO1.out.lt k hk).1)); clear hown' hgrow)
      have e1 : Value.int .u8 ((N : Int) / 256 % 256) = lowByte (N / 256) := by unfold lowByte; congr 1
      have HO3 := HO2.out
      rw [e1, List.append_assoc] at HO3
      exact ⟨⟨2, _, .inr (.inr (.inl ⟨rfl, rfl, rfl⟩)), HO3, HG.out, Nat.le_trans hb HG.out.size⟩, by decide⟩
    · go_wp2_with (at_builtin; refine wpList_append_own _ rfl _ _ 24 rfl base 5 i0 (.int .u8 0) 1 1 Try.underlying24 hi hz0 hz1 hz2 rfl (by decide) _ _ _ rfl (World.ownsRow.alloc HO1.out _) ⟨wr.heap.size, 0, none⟩ 1 1 [_] rfl rfl (cell_one_new _ _ _) (by simp [Value.oneCell']) (by unfold maxLen; omega) (by omega) (by simp; omega) ?_; intro v' w1 hown' hgrow _; have HO2 := veil hown'; have HG := veil ((HB.out.alloc hsz _).grown hgrow (Nat.le_trans hsz (by simp)) (fun k hk => (HO1.out.lt k hk).1)); clear hown' hgrow)
      have e1 : Value.int .u8 ((N : Int) % 256) = lowByte N := by unfold lowByte; congr 1
      have HO3 := HO2.out
      rw [e1, List.append_assoc] at HO3
      exact ⟨⟨3, _, .inr (.inr (.inr ⟨rfl, rfl, rfl⟩)), HO3, HG.out, Nat.le_trans hb HG.out.size⟩, by decide⟩
    · go_wp2
      go_ret
      exact ⟨_, rfl, HO1.out, HB.out⟩
end Go.Proofs.Ytnnpbbiiapipaaa
