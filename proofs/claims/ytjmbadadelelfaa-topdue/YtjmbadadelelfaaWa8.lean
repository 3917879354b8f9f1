/- Rows of ids; the walk of ids. -/
import Derived.Test.YtjmbadadelelfaaWa7
import Derived.Laws.OwnMore
import Derived.Laws.IdiomCopy
namespace Go.Proofs.Ytjmbadadelelfaa
open Go.RowKit
set_option linter.unusedVariables false
set_option linter.unusedSimpArgs false
attribute [local go_sem ↓] Go.wp_at_zero Go.wp_at_succ
theorem infoInt : (Try.prog.info? 3).map (fun i => (i.zero, i.size, i.bytes)) = some (some (.int .i64 0), 1, 8) := by kernel_rfl
/-- append of nothing, in a plain region. -/
theorem wpList_append_nil {P : Program} (w : World) {ops : Array Oper} {rest : List Oper} {o : Oper} {a : Act} {Q : Exit → Act → World → Prop} (hgd : o.guard = none) (s x : Operand) (t : TypeId)
    (ho : o.op = .call { callee := .builtin .append, args := #[s, x], argTypes := #[t, t] })
    (base : Nat) (e : TypeId) (i : TypeInfo) (size : Nat) (ht : P.underlying t = some (.slice e)) (hi : P.info? e = some i)
    (v : Value) (n : Nat) (xs : List Value) (hs : a.eval s = v) (hown : w.ownsRow base e size v n xs) (hx : a.eval x = .slice none 0 0)
    (h : wpList P ops Q rest (a.put o.dst v) w) : wpList P ops Q (o :: rest) a w := by
  refine wpList_plain hgd fun K hK => ?_
  have hr := run_append_owned_none (P := P) w base t o.type e i size ht hi v n xs hown
  unfold Oper.wp execOp
  simp only [ho, resolve, invoke, builtin, Sem.run_bind, Sem.run_pure, Result.andThen_ok, List.map_toArray, List.map_cons, List.map_nil, hs, hx, hr]
  exact hK _ _ h
theorem own_ge {w : World} {base : Nat} {e : TypeId} {size : Nat} {v : Value} {n : Nat} {xs : List Value} (h : w.ownsRow base e size v n xs) {k : Nat} (hk : v.ownBlock = some k) : base ≤ k ∧ k < w.heap.size := by
  rcases h.2 with ⟨rfl, _⟩ | ⟨g', cap, cur, rfl, hb, hg, _⟩
  · cases hk
  · simp [Value.ownBlock] at hk
    subst hk
    exact ⟨hb, (Array.getElem?_eq_some_iff.1 hg).1⟩
theorem own_slice {w : World} {base : Nat} {e : TypeId} {size : Nat} {v : Value} {n : Nat} {xs : List Value} (h : w.ownsRow base e size v n xs) : ∃ a c, v = .slice a n c := by
  rcases h.2 with ⟨rfl, rfl⟩ | ⟨g', cap, cur, rfl, _⟩
  · exact ⟨_, _, rfl⟩
  · exact ⟨_, _, rfl⟩
theorem own_base {w : World} {base base' : Nat} {e : TypeId} {size : Nat} {v : Value} {n : Nat} {xs : List Value} (h : w.ownsRow base e size v n xs) (hb : base' ≤ base) : w.ownsRow base' e size v n xs := by
  refine ⟨h.1, ?_⟩
  rcases h.2 with hn | ⟨g, cap, cur, e, h0, rest⟩
  · exact .inl hn
  · exact .inr ⟨g, cap, cur, e, Nat.le_trans hb h0, rest⟩
theorem own_kept {w w' : World} {base : Nat} {e : TypeId} {size : Nat} {v : Value} {n : Nat} {xs : List Value} (h : w.ownsRow base e size v n xs) (hk : ∀ k, v.ownBlock = some k → w'.heap[k]? = w.heap[k]?) : w'.ownsRow base e size v n xs := by
  refine ⟨h.1, ?_⟩
  rcases h.2 with hn | ⟨g, cap, cur, rfl, h0, hg, rest⟩
  · exact .inl hn
  · exact .inr ⟨g, cap, cur, rfl, h0, by rw [hk g rfl]; exact hg, rest⟩
theorem own_below {w w' : World} {base : Nat} {e : TypeId} {size : Nat} {v : Value} {n : Nat} {xs : List Value} (h : w.ownsRow base e size v n xs) (hb : Below w.heap.size w w') : w'.ownsRow base e size v n xs :=
  own_kept h (fun k hk => hb.block k (own_ge h hk).2)
/-- append of a row to a row, in a plain region. -/
theorem wpList_append_rows (w : World) {ops : Array Oper} {rest : List Oper} {o : Oper} {a : Act} {Q : Exit → Act → World → Prop} (hgd : o.guard = none) (s x : Operand)
    (ho : o.op = .call { callee := .builtin .append, args := #[s, x], argTypes := #[33, 33] })
    (base base2 : Nat) (v u : Value) (n m : Nat) (xs ys : List Value) (hs : a.eval s = v) (hown : w.ownsRow base 3 1 v n xs) (hx : a.eval x = u) (hu : w.ownsRow base2 3 1 u m ys) (h1 : ∀ u ∈ ys, u.oneCell' = true)
    (hnm : n + m ≤ 100000) (hbase : base ≤ w.heap.size)
    (h : ∀ v' w', w'.ownsRow base 3 1 v' (n + m) (xs ++ ys) → w.grownBy w' v.ownBlock → wpList Try.prog ops Q rest (a.put o.dst v') w') : wpList Try.prog ops Q (o :: rest) a w := by
  obtain ⟨i0, hi, hz0, hz1, hz2⟩ := info_parts infoInt
  rcases hu.2 with ⟨rfl, rfl⟩ | ⟨g, cap, cur, rfl, _⟩
  · have hys : ys = [] := List.length_eq_zero_iff.1 (by have := hu.1; omega)
    subst hys
    refine wpList_append_nil w hgd s x 33 ho base 3 i0 1 Try.underlying33 hi v n xs hs hown hx ?_
    have := h v w (by simpa using hown) ⟨rfl, rfl, rfl, Nat.le_refl _, fun _ _ _ => rfl⟩
    exact this
  · refine wpList_append_own w hgd s x 33 ho base 3 i0 (.int .i64 0) 1 8 Try.underlying33 hi hz0 hz1 hz2 rfl (by decide) v n xs hs hown ⟨g, 0, none⟩ m cap ys hx (by have := hu.1; omega) (hu.cells rfl) h1 (by unfold maxLen; omega) (by omega) hbase ?_
    intro v' w' q1 q2 _
    exact h v' w' q1 q2
def iv (xs : List Nat) : List Value := xs.map (fun (x : Nat) => Value.int .i64 ((x : Int) - 1))
theorem iv_one (xs : List Nat) : ∀ u ∈ iv xs, u.oneCell' = true := fun u hu => by
  obtain ⟨x, _, rfl⟩ := List.mem_map.1 hu
  rfl
theorem iv_append (xs ys : List Nat) : iv (xs ++ ys) = iv xs ++ iv ys := by simp [iv]
theorem cell_one (w : World) (x : Value) (t : TypeId) : ∀ j u, [x][j]? = some u → (w.alloc (.cells #[x] t)).cell? ((⟨w.heap.size, 0, none⟩ : Addr).add j) = some u := by
  intro j u h
  have hj : j < 1 := by
    rcases Nat.lt_or_ge j 1 with q | q
    · exact q
    · rw [List.getElem?_eq_none (by simpa using q)] at h; cases h
  obtain rfl : j = 0 := by omega
  simp at h
  subst h
  simp [Addr.add]
/-- How far it is from a spot to a list's end. -/
def far (xs : List Nat) (v : Nat) : Nat := if v = 0 then 0 else xs.length + 1 - pos xs v
section
variable {w : World} {b g n nw ct f l : Nat} {fm : Value} {F L A B E : Nat → Nat} {T : Nat → Bool} {xs : List Nat}
set_option maxRecDepth 100000 in
set_option maxHeartbeats 2000000 in
theorem ids_ok (h : Rep w b g n nw ct fm F L A B E T) (hL : Lst A B f l xs) (h0 : ∀ p ∈ xs, p ≠ 0 ∧ p ≤ n) (hnd : xs.Nodup) (hn : n ≤ 1024) (hlen : xs.length ≤ 1024) :
    Calls Try.prog 57 #[.pointer (some ⟨b, 0, none⟩), .agg #[.int .i64 (f : Int), .int .i64 (l : Int)]] w fun e w' => (∃ v, e = .returned v ∧ w'.ownsRow w.heap.size 3 1 v xs.length (iv xs)) ∧ Below w.heap.size w w' := by
  obtain ⟨i0, hi, hz0, hz1, hz2⟩ := info_parts infoInt
  have hbb := h.lt_b
  have hgg := h.lt_g
  have HR := veil h
  have HL := veil hL
  have H0 := veil h0
  have HN := veil hnd
  have HF : Hid (f = hz xs) := hL.f
  clear h hL h0 hnd
  go_enter Try.func57, Try.ntmps57
  go_wp2
  go_loopw [5, 6] (fun v s wr => ∃ P Q, xs = P ++ Q ∧ s = .int .i64 ((hz Q : Nat) : Int) ∧ Below w.heap.size w wr ∧ wr.ownsRow w.heap.size 3 1 v P.length (iv P)) (fun _ s _ => far xs (intOf s).toNat)
  case atStart => exact ⟨[], xs, rfl, by rw [← HF.out], (Below.refl _ _).alloc (Nat.le_refl _) _, World.ownsRow_nil _ _ _ _⟩
  case round =>
    obtain ⟨P, Q, hq, rfl, hbel, hown⟩ := hrel
    obtain ⟨av, cv, rfl⟩ := own_slice hown
    have HB := veil hbel
    have HO := veil hown
    have hsz := hbel.size
    have HQ := veil hq
    clear hbel hown hq
    match Q, HQ with
    | [], HQ =>
      have hx : xs = P := by rw [HQ.out]; simp
      have HE : Hid (wr.ownsRow w.heap.size 3 1 (.slice av P.length cv) xs.length (iv xs)) := by rw [hx]; exact HO.out
      clear hx
      go_wp2
      go_ret
      exact ⟨⟨_, rfl, HE.out⟩, HB.out⟩
    | y :: Q, HQ =>
      have hxe : xs = P ++ y :: Q := HQ.out
      have hy := H0.out y (by rw [hxe]; simp)
      have hnd := HN.out
      have hl := HL.out
      rw [hxe] at hnd hl
      have hB : B y = hz Q := hl.mid.2
      have HM : Hid (far xs (hz Q) < far xs y) := by
        show _ < _
        rw [hxe]
        unfold far
        rw [if_neg hy.1, pos_mid _ _ _ hnd]
        split
        · simp
        · rename_i e
          match Q, e, hnd with
          | [], e, _ => exact absurd rfl e
          | z :: Q, e, hnd =>
            have e2 : P ++ y :: z :: Q = (P ++ [y]) ++ z :: Q := by simp
            rw [e2] at hnd ⊢
            show _ - pos _ z < _
            rw [pos_mid _ _ _ hnd]
            simp
            omega
      have HX : Hid (xs = (P ++ [y]) ++ Q) := by show _ = _; rw [hxe]; simp
      have e1 := HR.out.eb y hy.2
      rw [hB] at e1
      obtain ⟨cp, e0⟩ := HR.out.en
      have E0 := veil e0
      have E1 := veil e1
      have x0 : ¬ (y : Int) = 0 := by have := hy.1; omega
      have xl : y < n + 1 := by have := hy.2; omega
      have xb : y ≤ 1024 := by have := hy.2; omega
      have hp : P.length ≤ 1024 := by rw [hxe] at hlen; simp at hlen; omega
      have hy1 : IntKind.i64.wrap ((y : Int) - 1) = (y : Int) - 1 := by simp [IntKind.wrap, IntKind.bits, IntKind.signed]; omega
      obtain ⟨z, hz'⟩ : ∃ z, hz Q = z := ⟨_, rfl⟩
      rw [hz'] at E1 HM
      have HZ := veil hz'
      have hhd : hz (y :: Q) = y := rfl
      rw [hhd]
      clear hxe hy hnd hl hB e1 e0 hz' hhd
      go_wp2_with (at_builtin; refine wpList_append_own _ rfl _ _ 33 rfl w.heap.size 3 i0 (.int .i64 0) 1 8 Try.underlying33 hi hz0 hz1 hz2 rfl (by decide) (.slice av P.length cv) P.length (iv P) rfl (by exact HO.out.alloc _) ⟨wr.heap.size, 0, none⟩ 1 1 [.int .i64 ((y : Int) - 1)] rfl rfl (cell_one _ _ _) (by simp [Value.oneCell']) (by unfold maxLen; omega) (by omega) (by simp; omega) ?_; intro v' w1 hown' hgrow _; have hb1 := (HB.out.alloc HB.out.size _).grown hgrow (by simp; omega) (fun k hk => (own_ge HO.out hk).1); have y0 := (hb1.cell (p := ⟨b, 130, none⟩) hbb).trans E0.out; have y1 := (hb1.cell (p := ⟨g, y * 4 + 1, none⟩) hgg).trans E1.out; obtain ⟨av', cv', rfl⟩ := own_slice hown'; have HO' := veil hown'; have HB1 := veil hb1; clear hown' hgrow hb1)
      go_roundw
      case rel => exact ⟨P ++ [y], Q, HX.out, by rw [HZ.out], HB1.out, by rw [iv_append, List.length_append]; exact HO'.out⟩
      case measure => simp [intOf]; exact HM.out
end
end Go.Proofs.Ytjmbadadelelfaa
