/-
  The walks of the document's set: List, Fork.
-/
import Derived.Test.YtlfejgjhamcahaaX5
namespace Go.Proofs.Ytlfejgjhamcahaa.Dc
open Go.RowKit Go.Lib
attribute [local go_sem ↓] Go.wp_at_zero Go.wp_at_succ

theorem take_snoc {R : List En} {j : Nat} {it : En} (h : R[j]? = some it) : R.take (j + 1) = R.take j ++ [it] := by rw [List.take_add_one, h]; rfl
def idsL (R : List En) : List Int := R.map (fun it => (it.1 : Int))
theorem idsL_take {R : List En} {j : Nat} {it : En} (h : R[j]? = some it) : idsL (R.take (j + 1)) = idsL (R.take j) ++ [(it.1 : Int)] := by
  rw [take_snoc h]; unfold idsL; rw [List.map_append]; rfl
theorem idsL_len (R : List En) : (idsL R).length = R.length := by unfold idsL; simp
set_option maxHeartbeats 2000000 in
theorem rList_ok {w : World} {base rb n most : Nat} {v : Value} {R : List En} (h : IsR w base rb n most v R) :
    Calls Try.prog 65 #[.pointer (some ⟨rb, 0, none⟩)] w fun e w' => ∃ v', e = .returned v' ∧ IL w' w.heap.size v' (idsL R) ∧ Below w.heap.size w w' := by
  obtain ⟨i0, hi0, hz0, hz1, hz2⟩ := info_parts infoInt
  obtain ⟨a, cap, rfl, hcap, _⟩ := h.form
  have hlen := h.len_le
  have hrb := h.lt
  have HH := veil h
  have HC1 := veil h.c2
  clear h
  go_enter Try.func65, Try.ntmps65
  go_wp2
  go_loopw [3, 4] (fun o i wr => ∃ j : Nat, j ≤ R.length ∧ i = .int .i64 j ∧ IL wr w.heap.size o (idsL (R.take j)) ∧ Below w.heap.size w wr) (fun _ i _ => R.length - (intOf i).toNat)
  case atStart => exact ⟨0, by omega, rfl, World.ownsRow_nil _ _ _ _, Below.refl _ _⟩
  case round =>
    obtain ⟨j, hj, rfl, hil, hbel⟩ := hrel
    have e1 := (hbel.cell (p := ⟨rb, 2, none⟩) hrb).trans HC1.out
    obtain ⟨ao, co, rfl⟩ := hil.slice
    have HIL := veil hil
    have HBE := veil hbel
    by_cases hjl : j < R.length
    · obtain ⟨g, cap', hv, h1, h2, h3, h4, h5⟩ := HH.out.cells (by intro e; subst e; simp at hjl)
      simp at hv
      obtain ⟨rfl, rfl⟩ := hv
      obtain ⟨it, hit⟩ : ∃ it, R[j]? = some it := ⟨_, List.getElem?_eq_getElem hjl⟩
      obtain ⟨z1, z2⟩ := h5 j it hit
      have y1 := (hbel.cell (p := ⟨g, j * 4, none⟩) h3).trans z1
      have htk := idsL_take hit
      have hll : (idsL (R.take j)).length ≤ 1024 := by rw [idsL_len, List.length_take]; omega
      have hsz := hbel.size
      have HT := veil htk
      clear hil hbel z1 z2 h5 htk
      go_wp2_with (at_builtin; refine wpList_append_own _ rfl _ _ 38 rfl w.heap.size 3 i0 (.int .i64 0) 1 8 Try.underlying38 hi0 hz0 hz1 hz2 rfl (by decide) _ _ _ rfl (World.ownsRow.alloc HIL.out _) ⟨wr.heap.size, 0, none⟩ 1 1 [.int .i64 (it.1 : Int)] rfl rfl (cell_one_new _ _ _) (by simp [Value.oneCell']) (by unfold maxLen; omega) (by omega) (by simp; omega) ?_; intro v' w1 hown' hgrow _; have HO := veil hown'; have HG := veil hgrow; clear hown' hgrow)
      go_roundw
      case rel =>
        refine ⟨j + 1, by omega, by go_num, ?_, ?_⟩
        · rw [HT.out]
          have := HO.out
          unfold IL
          simpa using this
        · exact (HBE.out.alloc HBE.out.size _).grown HG.out (by simp; omega) (fun k hk => (HIL.out.lt k hk).1)
      case measure => simp [intOf]; omega
    · have hj' : j = R.length := by omega
      clear hil hbel
      go_wp2
      go_ret
      refine ⟨_, rfl, ?_, HBE.out⟩
      have hR : R.take j = R := by rw [hj', List.take_length]
      have := HIL.out
      have key : ∀ S, S = R → IL wr w.heap.size (.slice ao (idsL (R.take j)).length co) (idsL S) → IL wr w.heap.size (.slice ao (idsL (R.take j)).length co) (idsL R) := fun S e q => by rw [e] at q; exact q
      exact key _ hR this

set_option maxHeartbeats 4000000 in
set_option maxRecDepth 100000 in
theorem rfork_some {w : World} {base rb n most : Nat} {g len cap : Nat} {R : List En} (h : IsR w base rb n most (.slice (some ⟨g, 0, none⟩) len cap) R) (hl : len = R.length) :
    Calls Try.prog 47 #[.pointer (some ⟨rb, 0, none⟩)] w fun e w' => ∃ rb' v', e = .returned (.pointer (some ⟨rb', 0, none⟩)) ∧ w.heap.size ≤ rb' ∧ IsR w' w.heap.size rb' n most v' R ∧ Below w.heap.size w w' := by
  obtain ⟨i0, hi0, hz0, hz1, hz2⟩ := info_parts infoItem
  have e0 := h.c0
  have em := h.c1
  have e1 := h.c2
  have hrb := h.lt
  have hlen := h.len_le
  have hg : g < w.heap.size := (h.own.lt g rfl).2
  have HN : Hid (∀ w' : World, (∀ a : Addr, a.block < w.heap.size → w'.cell? a = w.cell? a) → ∀ j u, (itemCells R)[j]? = some u → w'.cell? ((⟨g, 0, none⟩ : Addr).add j) = some u) := by
    intro w' hc j u hu
    have hj : j < (itemCells R).length := (List.getElem?_eq_some_iff.1 hu).1
    rw [itemCells_length] at hj
    have hadd : (⟨g, 0, none⟩ : Addr).add j = ⟨g, j, none⟩ := by unfold Addr.add; split <;> simp_all
    rw [hadd, hc _ hg]
    have ho := h.own
    subst hl
    rw [ho.cellAt j (by omega)]
    exact hu
  have HF : Hid (∀ (w1 : World) (v1 : Value), w.heap.size ≤ w1.heap.size → w1.ownsRow w.heap.size 112 4 v1 (0 + len) ([] ++ itemCells R) → Below w.heap.size w w1 →
      IsR (w1.alloc (.cells #[.int .i64 (n : Int), .int .i64 (most : Int), v1] 103)) w.heap.size w1.heap.size n most v1 R ∧ Below w.heap.size w (w1.alloc (.cells #[.int .i64 (n : Int), .int .i64 (most : Int), v1] 103))) := by
    intro w1 v1 hs ho hb
    subst hl
    refine ⟨⟨h.nle, h.mle, h.len, h.nd, h.rng, heap_alloc_new _ _, (by simpa using ho.alloc _), fun q => ?_, by simp; omega⟩, hb.alloc hs _⟩
    have := (ho.lt _ q).2
    omega
  have o1 := itemCells_one R
  have l1 := itemCells_length R
  rw [← hl] at l1 hlen
  have HU := veil Try.underlying101
  have yb : ¬ rb = w.heap.size := by omega
  clear h hl
  have HL : Hid ((w.alloc (.cells #[] 112)).ownsRow w.heap.size 112 4 (.slice (some ⟨w.heap.size, 0, none⟩) 0 0) 0 []) := by
    have := World.ownsRow_lit (base := w.heap.size) (e := 112) (size := 4) w #[] 0 (Nat.le_refl _) (by simp [maxLen]) rfl
    exact this
  have HN2 : Hid (∀ j u, (itemCells R)[j]? = some u → (w.alloc (.cells #[] 112)).cell? ((⟨g, 0, none⟩ : Addr).add j) = some u) := HN.out _ (fun a ha => World.cell?_alloc_lt _ _ _ ha)
  have HK : Hid (∀ w1, (w.alloc (.cells #[] 112)).grownBy w1 (some w.heap.size) → (w1.cell? ⟨rb, 0, none⟩ = some (.int .i64 (n : Int)) ∧ w1.cell? ⟨rb, 1, none⟩ = some (.int .i64 (most : Int)) ∧ w1.cell? ⟨rb, 2, none⟩ = some (.slice (some ⟨g, 0, none⟩) len cap)) ∧ Below w.heap.size w w1) := by
    intro w1 hg1
    have hb : Below w.heap.size w w1 := ((Below.refl _ _).alloc (Nat.le_refl _) _).grown hg1 (by simp) (fun k hk => by simp at hk; omega)
    exact ⟨⟨(hb.cell (p := ⟨rb, 0, none⟩) hrb).trans e0, (hb.cell (p := ⟨rb, 1, none⟩) hrb).trans em, (hb.cell (p := ⟨rb, 2, none⟩) hrb).trans e1⟩, hb⟩
  clear HN
  generalize itemCells R = c1 at *
  go_enter Try.func47, Try.ntmps47
  go_wp2
  go_region_held3 (fun w' => w'.cell? ⟨rb, 0, none⟩ = some (.int .i64 (n : Int)) ∧ w'.cell? ⟨rb, 1, none⟩ = some (.int .i64 (most : Int)) ∧ w'.cell? ⟨rb, 2, none⟩ = some (.slice (some ⟨g, 0, none⟩) len cap)) (first | go_keep | exact (HK.out _ hg1).1)
    ((refine step_append_any _ (by rfl) _ _ _ (by rfl) w.heap.size 112 i0 (.agg #[.int .i64 0, .bool false, .int .u64 0, .int .u8 0]) 4 32 HU.out hi0 hz0 hz1 hz2 rfl (by omega) (.slice (some ⟨w.heap.size, 0, none⟩) 0 0) 0 [] (by rfl) HL.out ⟨g, 0, none⟩ len cap c1 (by rfl) l1 HN2.out o1 (by unfold maxLen; omega) (by omega) (by simp) ?_; intro v1 w1 ho1 hg1'; have hg1 : (w.alloc (.cells #[] 112)).grownBy w1 (some w.heap.size) := ⟨hg1'.os, hg1'.tape, hg1'.output, hg1'.size, hg1'.block⟩; clear hg1'; obtain ⟨a1, d1, rfl⟩ := owns_slice ho1; have hX := HF.out w1 _ (HK.out _ hg1).2.size ho1 (HK.out _ hg1).2; have y1 : ¬ rb = w1.heap.size := (by have := (HK.out _ hg1).2.size; omega); have y2 : w.heap.size ≤ w1.heap.size := (HK.out _ hg1).2.size))
  rw [Nat.zero_add] at hX
  have HX := veil hX
  clear hX ho1 hg1
  go_wp2
  go_ret
  exact ⟨_, _, rfl, y2, HX.out.1, HX.out.2⟩

set_option maxHeartbeats 4000000 in
set_option maxRecDepth 100000 in
theorem rfork_nil {w : World} {base rb n most : Nat} (h : IsR w base rb n most (.slice none 0 0) []) :
    Calls Try.prog 47 #[.pointer (some ⟨rb, 0, none⟩)] w fun e w' => ∃ rb' v', e = .returned (.pointer (some ⟨rb', 0, none⟩)) ∧ w.heap.size ≤ rb' ∧ IsR w' w.heap.size rb' n most v' [] ∧ Below w.heap.size w w' := by
  obtain ⟨i0, hi0, hz0, hz1, hz2⟩ := info_parts infoItem
  have e0 := h.c0
  have em := h.c1
  have e1 := h.c2
  have hrb := h.lt
  have HU := veil Try.underlying101
  have yb : ¬ rb = w.heap.size := by omega
  have yb2 : ¬ rb = w.heap.size + 1 := by omega
  have HL : Hid ((w.alloc (.cells #[] 112)).ownsRow w.heap.size 112 4 (.slice (some ⟨w.heap.size, 0, none⟩) 0 0) 0 []) := by
    have := World.ownsRow_lit (base := w.heap.size) (e := 112) (size := 4) w #[] 0 (Nat.le_refl _) (by simp [maxLen]) rfl
    exact this
  have HX : Hid (IsR ((w.alloc (.cells #[] 112)).drew.alloc (.cells #[.int .i64 (n : Int), .int .i64 (most : Int), .slice (some ⟨w.heap.size, 0, none⟩) 0 0] 103)) w.heap.size (w.heap.size + 1) n most (.slice (some ⟨w.heap.size, 0, none⟩) 0 0) [] ∧ Below w.heap.size w ((w.alloc (.cells #[] 112)).drew.alloc (.cells #[.int .i64 (n : Int), .int .i64 (most : Int), .slice (some ⟨w.heap.size, 0, none⟩) 0 0] 103))) := by
    refine ⟨⟨h.nle, h.mle, h.len, h.nd, h.rng, ?_, HL.out.alloc _, by simp [Value.ownBlock], by simp; omega⟩, ((Below.refl _ _).alloc (Nat.le_refl _) _).drew.alloc (by simp) _⟩
    have := heap_alloc_new (w.alloc (.cells #[] 112)).drew (.cells #[.int .i64 (n : Int), .int .i64 (most : Int), .slice (some ⟨w.heap.size, 0, none⟩) 0 0] 103)
    simpa using this
  clear h
  go_enter Try.func47, Try.ntmps47
  go_wp2
  go_region_held3 (fun w' => w'.cell? ⟨rb, 0, none⟩ = some (.int .i64 (n : Int)) ∧ w'.cell? ⟨rb, 1, none⟩ = some (.int .i64 (most : Int)) ∧ w'.cell? ⟨rb, 2, none⟩ = some (.slice none 0 0)) (first | go_keep)
    ((refine step_append_nil _ (by rfl) _ _ _ (by rfl) w.heap.size 112 i0 4 HU.out hi0 (.slice (some ⟨w.heap.size, 0, none⟩) 0 0) 0 [] (by rfl) HL.out (by rfl) ?_))
  go_wp2
  go_ret
  exact ⟨_, _, rfl, by omega, HX.out.1, HX.out.2⟩

theorem rfork_ok {w : World} {base rb n most : Nat} {v : Value} {R : List En} (h : IsR w base rb n most v R) :
    Calls Try.prog 47 #[.pointer (some ⟨rb, 0, none⟩)] w fun e w' => ∃ rb' v', e = .returned (.pointer (some ⟨rb', 0, none⟩)) ∧ w.heap.size ≤ rb' ∧ IsR w' w.heap.size rb' n most v' R ∧ Below w.heap.size w w' := by
  rcases h.own.2 with ⟨e, e0⟩ | ⟨g, cap, cur, e, _⟩
  · have hR : R = [] := List.length_eq_zero_iff.1 e0
    subst hR
    subst e
    exact rfork_nil h
  · subst e
    exact rfork_some h rfl
end Go.Proofs.Ytlfejgjhamcahaa.Dc
