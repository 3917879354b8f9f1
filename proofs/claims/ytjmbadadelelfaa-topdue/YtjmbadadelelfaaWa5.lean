/- The walks of tie and untie, whatever the list. -/
import Derived.Test.YtjmbadadelelfaaWa4
import Derived.Deep.Cut
namespace Go.Proofs.Ytjmbadadelelfaa
open Go.RowKit
set_option linter.unusedVariables false
set_option linter.unusedSimpArgs false
attribute [local go_sem ↓] Go.wp_at_zero Go.wp_at_succ
/-- One more than a spot's place in a list; 0: it is not there. -/
def pos : List Nat → Nat → Nat
  | [], _ => 0
  | y :: ys, v => if y = v then 1 else if pos ys v = 0 then 0 else pos ys v + 1
theorem pos_mid : ∀ (R S : List Nat) (y : Nat), (R ++ y :: S).Nodup → pos (R ++ y :: S) y = R.length + 1
  | [], S, y, _ => by simp [pos]
  | z :: R, S, y, h => by
    obtain ⟨h1, h2⟩ := List.nodup_cons.1 h
    have hz : z ≠ y := fun e => h1 (by rw [e]; simp)
    show (if z = y then 1 else if pos (R ++ y :: S) y = 0 then 0 else pos (R ++ y :: S) y + 1) = _
    rw [if_neg hz, pos_mid R S y h2, if_neg (by omega)]
    simp
theorem pos_not : ∀ (R : List Nat) (y : Nat), y ∉ R → pos R y = 0
  | [], _, _ => rfl
  | z :: R, y, h => by
    have h1 : z ≠ y := fun e => h (by simp [e])
    show (if z = y then 1 else if pos R y = 0 then 0 else pos R y + 1) = 0
    rw [if_neg h1, pos_not R y (fun q => h (by simp [q])), if_pos rfl]
/-- A list's last one, its first one; 0: there is none. -/
def lz (l : List Nat) : Nat := l.getLastD 0
def hz (l : List Nat) : Nat := l.headD 0
theorem last_snoc (R : List Nat) (y d : Nat) : (R ++ [y]).getLastD d = y := by simp
section
variable {w : World} {b g n nw ct f l x t : Nat} {fm : Value} {F L A B E : Nat → Nat} {T : Nat → Bool} {P Q : List Nat}
set_option maxRecDepth 100000 in
set_option maxHeartbeats 4000000 in
theorem tie_core (h : Rep w b g n nw ct fm F L A B E T) (hL : Lst A B f l (P ++ Q)) (hP : ∀ p ∈ P, E p ≤ t) (hQ : ∀ q ∈ Q, t < E q) (h0 : ∀ p ∈ P ++ Q, p ≠ 0 ∧ p ≤ n) (hnd : (P ++ Q).Nodup) (hx : x ≤ n) (hxm : x ∉ P ++ Q)
    {f' l' : Nat} {A' B' : Nat → Nat} (hf' : f' = if lz P = 0 then x else f) (hl' : l' = if hz Q = 0 then x else l) (hA' : A' = updz (upd A x (lz P)) (hz Q) x) (hB' : B' = updz (upd B x (hz Q)) (lz P) x) :
    Calls Try.prog 45 #[.pointer (some ⟨b, 0, none⟩), .agg #[.int .i64 (f : Int), .int .i64 (l : Int)], .int .i64 (x : Int), .int .u64 (t : Int)] w fun e w' =>
      e = .returned (.agg #[.int .i64 (f' : Int), .int .i64 (l' : Int)]) ∧ Rep w' b g n nw ct fm F L A' B' (upd E x t) (upd T x true) ∧ Only b g w w' := by
  have HF' := veil hf'
  have HL' := veil hl'
  have HA' := veil hA'
  have HB' := veil hB'
  clear hf' hl' hA' hB'
  obtain ⟨cp, e0⟩ := h.en
  have n0 := h.ea x hx; have n1 := h.eb x hx; have n2 := h.ee x hx; have n3 := h.et x hx
  have fg := h.fg
  have hbb := h.lt_b
  have hgg := h.lt_g
  have y1 : ¬ b = w.heap.size := by omega
  have y2 : ¬ g = w.heap.size := by omega
  have y3 : ¬ b = w.heap.size + 1 := by omega
  have y4 : ¬ g = w.heap.size + 1 := by omega
  have xl : x < n + 1 := by omega
  have HR := veil h
  have HL := veil hL
  have HP := veil hP
  have HQ := veil hQ
  have H0 := veil h0
  have HN := veil hnd
  have HX := veil hxm
  have hl0 : l = lz (P ++ Q) := hL.l
  have Hl0 := veil hl0
  clear h hL hP hQ h0 hnd hxm hl0
  go_enter Try.func45, Try.ntmps45
  go_wp2
  go_loopw [9, 10] (fun a c wr => ∃ Q1 Q2, Q = Q1 ++ Q2 ∧ a = .int .i64 ((lz (P ++ Q1) : Nat) : Int) ∧ c = .int .i64 ((hz Q2 : Nat) : Int) ∧ wr = (w.alloc (.cells #[.int .i64 (f : Int), .int .i64 (l : Int)] 69)).alloc (.cells #[.int .i64 0, .int .i64 0] 69)) (fun a _ _ => pos (P ++ Q) (intOf a).toNat)
  case atStart => exact ⟨Q, [], by simp, by rw [← Hl0.out], rfl, rfl⟩
  case round =>
    obtain ⟨Q1, Q2, hq, rfl, rfl, rfl⟩ := hrel
    rcases Q1.eq_nil_or_concat with rfl | ⟨R, y, rfl⟩
    · obtain rfl : Q = Q2 := by simpa using hq
      clear hq
      rw [List.append_nil]
      have hlm : lz P ≠ 0 → lz P ∈ P := last_mem
      have hhm : hz Q ≠ 0 → hz Q ∈ Q := head_mem
      have HE : Hid (lz P ≠ 0 → lz P ≤ n ∧ E (lz P) ≤ t ∧ lz P ≠ x) := fun q => ⟨(H0.out _ (List.mem_append_left _ (hlm q))).2, HP.out _ (hlm q), fun e => HX.out (by rw [← e]; exact List.mem_append_left _ (hlm q))⟩
      have HF : Hid (hz Q ≠ 0 → hz Q ≤ n ∧ hz Q ≠ x) := fun q => ⟨(H0.out _ (List.mem_append_right _ (hhm q))).2, fun e => HX.out (by rw [← e]; exact List.mem_append_right _ (hhm q))⟩
      clear HL HP HQ H0 HN HX Hl0 hlm hhm
      obtain ⟨ah, hah⟩ : ∃ ah, lz P = ah := ⟨_, rfl⟩
      obtain ⟨be, hbe⟩ : ∃ be, hz Q = be := ⟨_, rfl⟩
      rw [hah] at HE HF' HA' HB' ⊢
      rw [hbe] at HF HL' HA' HB' ⊢
      clear hah hbe
      obtain ⟨W4, hW4⟩ : ∃ W4, W4 = (((w.setCell ⟨g, x * 4, none⟩ (.int .i64 (ah : Int))).setCell ⟨g, x * 4 + 1, none⟩ (.int .i64 (be : Int))).setCell ⟨g, x * 4 + 2, none⟩ (.int .u64 (t : Int))).setCell ⟨g, x * 4 + 3, none⟩ (.bool true) := ⟨_, rfl⟩
      have HEND : Hid (Rep W4 b g n nw ct fm F L (upd A x ah) (upd B x be) (upd E x t) (upd T x true)) := by rw [hW4]; exact (((HR.out.setA x hx ah).setB x hx be).setE x hx t).setT x hx true
      have HO : Hid (Only b g w W4) := by rw [hW4]; exact ((((Only.refl b g w).set _ _ (Or.inr rfl)).set _ _ (Or.inr rfl)).set _ _ (Or.inr rfl)).set _ _ (Or.inr rfl)
      have HS : Hid (W4.heap.size = w.heap.size) := by rw [hW4]; show _ = _; simp
      have HW4 := veil hW4
      clear hW4
      have ht : ah ≠ 0 → ¬ (t : Int) < (E ah : Int) := fun q => by have := (HE.out q).2.1; omega
      have HT := veil ht
      clear ht
      by_cases ha : ah = 0
      · subst ha
        go_upto_region 5 with fail
        have hW4' : W4 = (((w.setCell ⟨g, x * 4, none⟩ (.int .i64 0)).setCell ⟨g, x * 4 + 1, none⟩ (.int .i64 (be : Int))).setCell ⟨g, x * 4 + 2, none⟩ (.int .u64 (t : Int))).setCell ⟨g, x * 4 + 3, none⟩ (.bool true) := HW4.out
        rw [← hW4']
        clear hW4'
        have hs4 := HS.out
        have fg4 := HEND.out.fg
        obtain ⟨cp4, e04⟩ := HEND.out.en
        clear HE HW4 n0 n1 n2 n3 e0 fg
        by_cases hb : be = 0
        · subst hb
          clear HF
          go_wp2
          have eF := HF'.out
          have eL := HL'.out
          have eA := HA'.out
          have eB := HB'.out
          simp only [updz, if_true, if_pos rfl, reduceIte] at eF eL eA eB
          rw [eF, eL, eA, eB]
          clear eF eL eA eB
          simp [bodyPost, results, Try.results45, go_sem, updz, hs4]
          exact ⟨(HEND.out.alloc _).alloc _, (HO.out.alloc _).alloc _⟩
        · obtain ⟨b1, b2⟩ := HF.out hb
          have c0 := HEND.out.ea be b1
          have hb' : ¬ (be : Int) = 0 := by omega
          have bl : be < n + 1 := by omega
          clear HF
          go_wp2
          have eF := HF'.out
          have eL := HL'.out
          have eA := HA'.out
          have eB := HB'.out
          simp only [updz, if_neg hb, reduceIte] at eF eL eA eB
          rw [eF, eL, eA, eB]
          clear eF eL eA eB
          simp [bodyPost, results, Try.results45, go_sem, updz, hb, hs4]
          exact ⟨((HEND.out.setA be b1 x).alloc _).alloc _, ((HO.out.set _ _ (Or.inr rfl)).alloc _).alloc _⟩
      · obtain ⟨a1, a2, a3⟩ := HE.out ha
        have c2 := HR.out.ee ah a1
        have ha' : ¬ (ah : Int) = 0 := by omega
        have al : ah < n + 1 := by omega
        have ht := HT.out ha
        clear HE HT
        go_upto_region 5 with fail
        rw [← HW4.out]
        have hs4 := HS.out
        have fg4 := HEND.out.fg
        have c1 := HEND.out.eb ah a1
        obtain ⟨cp4, e04⟩ := HEND.out.en
        clear HW4 n0 n1 n2 n3 e0 fg c2
        by_cases hb : be = 0
        · subst hb
          clear HF
          go_wp2
          have eF := HF'.out
          have eL := HL'.out
          have eA := HA'.out
          have eB := HB'.out
          simp only [updz, if_neg ha, reduceIte] at eF eL eA eB
          rw [eF, eL, eA, eB]
          clear eF eL eA eB
          simp [bodyPost, results, Try.results45, go_sem, updz, ha, hs4]
          exact ⟨((HEND.out.setB ah a1 x).alloc _).alloc _, ((HO.out.set _ _ (Or.inr rfl)).alloc _).alloc _⟩
        · obtain ⟨b1, b2⟩ := HF.out hb
          obtain ⟨W5, hW5⟩ : ∃ W5, W5 = W4.setCell ⟨g, ah * 4 + 1, none⟩ (.int .i64 (x : Int)) := ⟨_, rfl⟩
          have HR5 : Hid (Rep W5 b g n nw ct fm F L (upd A x ah) (upd (upd B x be) ah x) (upd E x t) (upd T x true)) := by rw [hW5]; exact HEND.out.setB ah a1 x
          have HO5 : Hid (Only b g w W5) := by rw [hW5]; exact HO.out.set _ _ (Or.inr rfl)
          have HS5 : Hid (W5.heap.size = w.heap.size) := by rw [hW5]; show _ = _; simp; exact HS.out
          have hb' : ¬ (be : Int) = 0 := by omega
          have bl : be < n + 1 := by omega
          have HW5 := veil hW5
          clear HF hW5
          go_upto_region 8 with fail
          rw [← HW5.out]
          have hs5 := HS5.out
          have fg5 := HR5.out.fg
          have c0 := HR5.out.ea be b1
          obtain ⟨cp5, e05⟩ := HR5.out.en
          clear HW5 fg4 c1 e04 hs4
          go_wp2
          have eF := HF'.out
          have eL := HL'.out
          have eA := HA'.out
          have eB := HB'.out
          simp only [updz, if_neg ha, if_neg hb, reduceIte] at eF eL eA eB
          rw [eF, eL, eA, eB]
          clear eF eL eA eB
          simp [bodyPost, results, Try.results45, go_sem, updz, ha, hb, hs5]
          exact ⟨((HR5.out.setA be b1 x).alloc _).alloc _, ((HO5.out.set _ _ (Or.inr rfl)).alloc _).alloc _⟩
    · rw [List.concat_eq_append] at hq ⊢
      have e1 : lz (P ++ (R ++ [y])) = y := by unfold lz; rw [← List.append_assoc]; exact last_snoc _ _ _
      have hQe : P ++ Q = (P ++ R) ++ y :: Q2 := by rw [hq]; simp
      have hyQ : y ∈ Q := by rw [hq]; simp
      have hy := H0.out y (List.mem_append_right _ hyQ)
      have ht := HQ.out y hyQ
      have hl := HL.out
      have hnd := HN.out
      rw [hQe] at hl hnd
      have hA : A y = lz (P ++ R) := hl.mid.1
      have HM : Hid (pos (P ++ Q) (lz (P ++ R)) < pos (P ++ Q) y) := by
        show _ < _
        unfold lz
        rw [hQe, pos_mid _ _ _ hnd]
        rcases (P ++ R).eq_nil_or_concat with e | ⟨R', z, e⟩ <;> (try rw [List.concat_eq_append] at e)
        · rw [e, pos_not _ _ (fun q => (H0.out 0 (by rw [hQe, e]; exact q)).1 rfl)]
          simp
        · rw [e, last_snoc]
          have e2 : (R' ++ [z]) ++ y :: Q2 = R' ++ z :: (y :: Q2) := by simp
          rw [e] at hnd
          rw [e2] at hnd ⊢
          rw [pos_mid _ _ _ hnd]
          simp
      have HREL : Hid (Q = R ++ (y :: Q2)) := by show _ = _; rw [hq]; simp
      have n0y := HR.out.ea y hy.2
      have n2y := HR.out.ee y hy.2
      rw [hA] at n0y
      have hy' : ¬ (y : Int) = 0 := by have := hy.1; omega
      have yl : y < n + 1 := by have := hy.2; omega
      have ht' : (t : Int) < (E y : Int) := by omega
      rw [e1]
      clear e1 hQe hyQ hy ht hl hnd hA hq
      obtain ⟨z, hz⟩ : ∃ z, lz (P ++ R) = z := ⟨_, rfl⟩
      rw [hz] at n0y HM
      have HZ := veil hz
      clear hz
      go_wp2
      go_roundw
      case rel => exact ⟨R, y :: Q2, HREL.out, by rw [HZ.out], rfl, trivial⟩
      case measure => simp [intOf]; exact HM.out
end
end Go.Proofs.Ytjmbadadelelfaa
