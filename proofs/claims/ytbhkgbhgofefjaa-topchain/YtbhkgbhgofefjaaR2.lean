/- The document's Waits, Held, Waiters. -/
import Derived.Test.YtbhkgbhgofefjaaR1
namespace Go.Proofs.Ytbhkgbhgofefjaa
open Go.RowKit
set_option linter.unusedVariables false
/-- Whom t waits for, by the lines alone. -/
theorem Fine.waits_at {T : List Th} {L : List Lk} (f : Fine T L) {t : Int} {j i : Nat} {y : Lk} (hy : L[j]? = some y) (hi : y.l[i]?.map (fun (x : Nat) => (x : Int)) = some t) : waitsOf T t = (j : Int) := by
  rw [Option.map_eq_some_iff] at hi
  obtain ⟨x, hx, rfl⟩ := hi
  have hxl := (f.lk y (List.mem_of_getElem? hy)).2.2.1 x (List.mem_of_getElem? hx)
  have hT : T[x]? = some _ := List.getElem?_eq_getElem hxl
  have hu := (f.wt x _ hT j y hy).1 (List.mem_of_getElem? hx)
  unfold waitsOf
  rw [if_pos (by unfold inT; simp; omega), Int.toNat_natCast, hT]
  exact hu
theorem Fine.waits_no {T : List Th} {L : List Lk} (f : Fine T L) {t : Int} (h : ∀ (j : Nat) y, L[j]? = some y → ∀ (i x : Nat), y.l[i]? = some x → ¬ (x : Int) = t) : waitsOf T t = -1 := by
  unfold waitsOf
  cases ht : inT T t with
  | false => rfl
  | true =>
    obtain ⟨k, x, rfl, hk, hx, e⟩ := inT_yes ht
    rw [if_pos rfl, Int.toNat_natCast, hx]
    have hok := f.th x (List.mem_of_getElem? hx)
    by_cases hu : x.u = -1
    · simpa using hu
    · exfalso
      obtain ⟨m, hm⟩ : ∃ m : Nat, x.u = (m : Int) := ⟨x.u.toNat, by have := hok.2.1; omega⟩
      have hml : m < L.length := by have := hok.2.2; omega
      have hy : L[m]? = some _ := List.getElem?_eq_getElem hml
      obtain ⟨i, hi⟩ := List.mem_iff_getElem?.1 ((f.wt k x hx m _ hy).2 hm)
      exact h m _ hy i k hi rfl
section
variable {w w' : World} {base s : Nat} {vb vo vw : Value} {V : List Value} {T : List Th} {L : List Lk}
set_option maxHeartbeats 1000000 in
theorem rwaits_ok (h : IsR w base s vb vo vw V T L) (t : Int) : Calls Try.prog 36 #[.pointer (some ⟨s, 0, none⟩), .int .i64 t] w fun e w' => e = .returned (.int .i64 (waitsOf T t)) ∧ w' = w := by
  obtain ⟨ab, cb, ao, co, aw, cw, _, _, _, hv⟩ := h.rv
  have c2 := hv.c2
  have hle := hv.le.2.2
  have hl32 := h.f.l2
  have HF := veil h.f
  have HV := veil hv
  clear h hv
  go_enter Try.func36, Try.ntmps36
  go_wp2
  go_loopw [5] (fun p wr => ∃ (j : Nat), j ≤ L.length ∧ p = .int .i64 j ∧ wr = w ∧ ∀ (q : Nat) y, q < j → L[q]? = some y → ∀ (i x : Nat), y.l[i]? = some x → ¬ (x : Int) = t)
    (fun p _ => L.length - (intOf p).toNat)
  case atStart => exact ⟨0, by omega, rfl, rfl, fun q y hq => by omega⟩
  case round =>
    obtain ⟨j, hj, rfl, hwr, hno⟩ := hrel
    replace hwr := hwr.symm
    subst hwr
    have HNO := veil hno
    clear hno
    by_cases hjl : j < L.length
    · have hjl' : (j : Int) < (L.length : Int) := by omega
      obtain ⟨y, hy⟩ : ∃ y, L[j]? = some y := ⟨_, List.getElem?_eq_getElem hjl⟩
      obtain ⟨g, rfl, hg, y0, l1, l2, hce⟩ := HV.out.ce j y hy
      have hly : y.l.length ≤ 9223372036854775807 := by have := l2; unfold maxLen at this; omega
      have HCE := veil hce
      have HY := veil hy
      generalize (lineAt V j).1 = va at y0 HCE
      generalize (lineAt V j).2 = vc at y0 l1 l2
      clear hce hy
      go_wp2
      go_loopw [6] (fun p wr => ∃ (i : Nat), i ≤ y.l.length ∧ p = .int .i64 i ∧ wr = w ∧ ∀ (q x : Nat), q < i → y.l[q]? = some x → ¬ (x : Int) = t)
        (fun p _ => y.l.length - (intOf p).toNat)
      case atStart => exact ⟨0, by omega, rfl, rfl, fun q x hq => by omega⟩
      case round =>
        obtain ⟨i, hi, rfl, hwr, hni⟩ := hrel
        replace hwr := hwr.symm
        subst hwr
        have HNI := veil hni
        clear hni
        by_cases hil : i < y.l.length
        · have hil' : (i : Int) < (y.l.length : Int) := by omega
          obtain ⟨x, hx⟩ : ∃ x, y.l[i]? = some x := ⟨_, List.getElem?_eq_getElem hil⟩
          obtain ⟨gg, rfl, hgg, x0⟩ := HCE.out i x hx
          by_cases hxt : (x : Int) = t
          · have e : waitsOf T t = (j : Int) := HF.out.waits_at HY.out (by rw [hx]; simp [hxt])
            have HE := veil e
            have HX := veil hx
            clear e hx
            have hxt' : ((x : Int) == t) = true := by simp [hxt]
            go_wp2
            go_ret
            exact ⟨by rw [HE.out]; rfl, rfl⟩
          · have HX := veil hx
            have hxt' : ((x : Int) == t) = false := by simp [hxt]
            clear hx
            go_wp2
            go_roundw
            case rel =>
              refine ⟨i + 1, by omega, by go_num, trivial, fun q z hq hz => ?_⟩
              by_cases e : q = i
              · subst e
                rw [HX.out] at hz
                obtain rfl := Option.some.inj hz
                exact hxt
              · exact HNI.out q z (by omega) hz
            case measure => simp [intOf]; omega
        · have hil' : ¬ (i : Int) < (y.l.length : Int) := by omega
          go_wp2
          go_roundw
          case rel =>
            refine ⟨j + 1, by omega, by go_num, trivial, fun q z hq hz a x hx => ?_⟩
            by_cases e : q = j
            · subst e
              rw [HY.out] at hz
              obtain rfl := Option.some.inj hz
              exact HNI.out a x (by have := (List.getElem?_eq_some_iff.1 hx).1; omega) hx
            · exact HNO.out q z (by omega) hz a x hx
          case measure => simp [intOf]; omega
    · have hjl' : ¬ (j : Int) < (L.length : Int) := by omega
      go_wp2
      go_ret
      exact ⟨by rw [HF.out.waits_no (fun q y hy => HNO.out q y (by have := (List.getElem?_eq_some_iff.1 hy).1; omega) hy)]; rfl, rfl⟩
end
end Go.Proofs.Ytbhkgbhgofefjaa
