/- The document's Encode and Decode. -/
import Derived.Test.YtnnpbbiiapipaaaO21
namespace Go.Proofs.Ytnnpbbiiapipaaa
open Go.RowKit Go.Lib
set_option linter.unusedVariables false
theorem rencode_no (w : World) (a : Option Addr) (len cap : Nat) (hlen : len < 9223372036854775808) (O R : Nat → Int) (hp : Prg w a len O R) (hr : ¬ Rt len O R) :
    Calls Try.prog 37 #[.slice a len cap] w fun e w' => e = .returned (.tuple #[.slice none 0 0, .int .i64 3]) ∧ Below w.heap.size w w' := by
  have HC := veil (rcheck_no w a len cap hlen O R hp hr)
  clear hp hr
  go_enter Try.func37, Try.ntmps37
  go_wp2_with (go_at_call 27; refine (HC.out).mono ?_; rintro e w1 ⟨y, rfl, hb, hk⟩; have HB := veil hb; clear hb hk)
  go_ret2
  exact ⟨rfl, HB.out⟩
theorem lit_row (w : World) (base : Nat) (hb : base ≤ w.heap.size) (v : Value) (t : TypeId) : (w.alloc (.cells #[v] t)).ownsRow base t 1 (.slice (some ⟨w.heap.size, 0, none⟩) 1 1) 1 [v] :=
  ⟨rfl, .inr ⟨w.heap.size, 1, #[v], rfl, hb, (MapKept.heap_alloc w _).1, Nat.le_refl _, by unfold maxLen; omega, rfl, rfl⟩⟩
theorem wrap8 (z : Int) : IntKind.u8.wrap z = z % 256 := by
  unfold IntKind.wrap
  simp [IntKind.bits, IntKind.signed]
theorem own_like {w w' : World} {base : Nat} {e : TypeId} {size : Nat} {v : Value} {n : Nat} {xs : List Value} (h : w.ownsRow base e size v n xs) (hh : w'.heap = w.heap) : w'.ownsRow base e size v n xs := by
  refine ⟨h.1, ?_⟩
  rcases h.2 with hn | ⟨g, cap, cur, rfl, hb, hgg, rest⟩
  · exact .inl hn
  · exact .inr ⟨g, cap, cur, rfl, hb, by rw [hh]; exact hgg, rest⟩
theorem news_like {w1 W : World} {c : List Value} {t : TypeId} (h : W.heap = (w1.alloc (.cells c.toArray t)).heap) : ∀ j u, c[j]? = some u → W.cell? ((⟨w1.heap.size, 0, none⟩ : Addr).add j) = some u := by
  intro j u hu
  have hb : W.heap[w1.heap.size]? = some (.cells c.toArray t) := by rw [h]; exact (MapKept.heap_alloc w1 _).1
  exact World.news_of_block (cs := c.toArray) hb j u (by simpa using hu)
theorem grow_keeps {w wr : World} {e : TypeId} {size n : Nat} {v : Value} {xs : List Value} {lb k1 k2 : Nat} {u1 u2 : Value} (hown : wr.ownsRow w.heap.size e size v n xs) (hbel : Below w.heap.size w wr) (hlb : lb < w.heap.size) (y1 : wr.cell? ⟨lb, k1, none⟩ = some u1) (y2 : wr.cell? ⟨lb, k2, none⟩ = some u2) :
    ∀ (W w2 : World) (o : Obj), W.grownBy w2 v.ownBlock → W.heap = (wr.alloc o).heap → W.os = wr.os → W.tape = wr.tape → W.output = wr.output → w2.cell? ⟨lb, k1, none⟩ = some u1 ∧ w2.cell? ⟨lb, k2, none⟩ = some u2 ∧ Below w.heap.size w w2 := by
  intro W w2 o hg hW h1 h2 h3
  have hb1 : Below w.heap.size w W := by
    have q := hbel.alloc hbel.size o
    exact ⟨h1.trans q.os, h2.trans q.tape, h3.trans q.output, by rw [hW]; exact q.size, fun k hk => by rw [hW]; exact q.block k hk⟩
  have hb2 : Below w.heap.size w w2 := hb1.grown hg hb1.size (fun k hk => (hown.lt k hk).1)
  exact ⟨(hb2.cell (p := ⟨lb, k1, none⟩) hlb).trans ((hbel.cell (p := ⟨lb, k1, none⟩) hlb).symm.trans y1), (hb2.cell (p := ⟨lb, k2, none⟩) hlb).trans ((hbel.cell (p := ⟨lb, k2, none⟩) hlb).symm.trans y2), hb2⟩
set_option maxHeartbeats 1000000 in
theorem rencode_yes (w : World) (a : Option Addr) (len cap : Nat) (hlen : len < 9223372036854775808) (O R : Nat → Int) (hp : Prg w a len O R) (hr : Rt len O R) :
    Calls Try.prog 37 #[.slice a len cap] w fun e w' => ∃ v : Value, e = .returned (.tuple #[v, .int .i64 0]) ∧ w'.ownsRow w.heap.size 5 1 v (1 + 4 * len) (enc len O R len) ∧ Below w.heap.size w w' := by
  have HP := veil hp
  have HC := veil (rcheck_yes w a len cap hlen O R hp hr)
  obtain ⟨y0, hy0⟩ := hr
  obtain ⟨hl1, hl2, hall, _, _⟩ := hy0.zero
  have HA := veil hall
  clear hp hy0 hall
  have hl3 : (len : Int) % 256 = (len : Int) := by omega
  go_enter Try.func37, Try.ntmps37
  go_wp2_with (first
    | (go_at_call 27; refine (HC.out).mono ?_; rintro e w1 ⟨rfl, hb⟩; have HL := veil hb; clear hb))
  go_loopw [6, 7] (fun s i wr => ∃ (j : Nat), j ≤ len ∧ i = .int .i64 j ∧ wr.ownsRow w.heap.size 5 1 s (1 + 4 * j) (enc len O R j) ∧ Below w.heap.size w wr) (fun _ i _ => len - (intOf i).toNat)
  case atStart => exact ⟨0, by omega, rfl, lit_row _ _ HL.out.size _ _, HL.out.alloc HL.out.size _⟩
  case round =>
    obtain ⟨j, hj, rfl, hown, hbel⟩ := hrel
    by_cases hjl : j < len
    · have hjl' : (j : Int) < (len : Int) := by omega
      obtain ⟨b1, b2, b3, b4⟩ := okI_bounds (by omega) (HA.out j hjl)
      obtain ⟨o, ho⟩ : ∃ o : Nat, O j = (o : Int) := ⟨(O j).toNat, by omega⟩
      obtain ⟨r, hr⟩ : ∃ r : Nat, R j = (r : Int) := ⟨(R j).toNat, by omega⟩
      rcases HP.out with h0 | ⟨lb, off, rfl, hlb, hc⟩
      · omega
      · obtain ⟨z1, z2⟩ := hc j hjl
        have y1 := (hbel.cell (p := ⟨lb, off + j * 2, none⟩) hlb).trans z1
        have y2 := (hbel.cell (p := ⟨lb, off + j * 2 + 1, none⟩) hlb).trans z2
        have HE : Hid (enc len O R (j + 1) = enc len O R j ++ [.int .u8 (o : Int), .int .u8 ((r : Int) / 65536), .int .u8 ((r : Int) / 256 % 256), .int .u8 ((r : Int) % 256)]) := by
          show enc len O R (j + 1) = _
          have e1 : Value.int .u8 ((r : Int) / 65536) = lowByte (r / 65536) := by unfold lowByte; congr 1; omega
          have e2 : Value.int .u8 ((r : Int) / 256 % 256) = lowByte (r / 256) := by unfold lowByte; congr 1
          have e3 : Value.int .u8 ((r : Int) % 256) = lowByte r := by unfold lowByte; congr 1
          rw [e1, e2, e3]
          simp only [enc, ho, hr, Int.toNat_natCast, List.append_assoc]
          rfl
        rw [ho] at y1
        rw [hr] at y2
        have ho1 : o < 256 := by omega
        have hr1 : r < 16777216 := by omega
        have hsz := hbel.size
        have w1' : IntKind.u8.wrap (o : Int) = (o : Int) := by rw [wrap8]; omega
        have w2' : IntKind.u8.wrap ((r : Int) / 65536) = (r : Int) / 65536 := by rw [wrap8]; omega
        have w3' : IntKind.u8.wrap ((r : Int) / 256) = (r : Int) / 256 % 256 := wrap8 _
        have w4' : IntKind.u8.wrap (r : Int) = (r : Int) % 256 := wrap8 _
        have HK := veil (grow_keeps hown hbel hlb y1 y2)
        have HOW := veil (fun (W : World) (ob : Obj) (hW : W.heap = (wr.alloc ob).heap) => own_like (hown.alloc ob) hW)
        have HNW := veil (fun (W : World) (hW : W.heap = (wr.alloc (.cells #[.int .u8 (o : Int), .int .u8 ((r : Int) / 65536), .int .u8 ((r : Int) / 256 % 256), .int .u8 ((r : Int) % 256)] 5)).heap) => news_like (c := [.int .u8 (o : Int), .int .u8 ((r : Int) / 65536), .int .u8 ((r : Int) / 256 % 256), .int .u8 ((r : Int) % 256)]) hW)
        obtain ⟨i0, hi, hz0, hz1, hz2⟩ := info_parts info_u8
        have HB := veil hbel
        clear hown hbel hc z1 z2 ho hr b1 b2 b3 b4
        go_wp2
        refine wp_region_held_drew (S := (fun w' => w'.cell? ⟨lb, off + j * 2, none⟩ = some (.int .i64 (o : Int)) ∧ w'.cell? ⟨lb, off + j * 2 + 1, none⟩ = some (.int .i64 (r : Int)))) (by kernel_rfl) ?_ (fun hHeld => ?_)
        · exact ⟨y1, y2⟩
        refine wpAnyH_take (i := 0) (v := ?_) rfl (by kernel_rfl) (by kernel_rfl) (by kernel_rfl) (fun _ _ _ h => h) (Or.inl ⟨by rfl, ?v0⟩) (by assumption) ?_
        case v0 => (intro w hSw; (try dsimp only at hSw); go_simp; try with_reducible rfl)
        try simp only [Act.put, List.setIfInBounds_toArray, List.set_cons_zero, List.set_cons_succ, List.getElem_toArray, List.getElem_cons_zero]
        refine wpAnyH_take (i := 1) (v := ?_) rfl (by kernel_rfl) (by kernel_rfl) (by kernel_rfl) (fun _ _ _ h => h) (Or.inl ⟨by rfl, ?v1⟩) (by assumption) ?_
        case v1 => (intro w hSw; (try dsimp only at hSw); go_simp; try with_reducible rfl)
        try simp only [Act.put, List.setIfInBounds_toArray, List.set_cons_zero, List.set_cons_succ, List.getElem_toArray, List.getElem_cons_succ, List.getElem_cons_zero]
        refine wpAnyH_take (i := 2) (v := ?_) rfl (by kernel_rfl) (by kernel_rfl) (by kernel_rfl) (fun _ _ _ h => h) (Or.inl ⟨by rfl, ?v2⟩) (by assumption) ?_
        case v2 => (intro w hSw; (try dsimp only at hSw); go_simp; try with_reducible rfl)
        try simp only [Act.put, List.setIfInBounds_toArray, List.set_cons_zero, List.set_cons_succ, List.getElem_toArray, List.getElem_cons_succ, List.getElem_cons_zero]
        refine wpAnyH_take (i := 3) (v := ?_) rfl (by kernel_rfl) (by kernel_rfl) (by kernel_rfl) (fun _ _ _ h => h) (Or.inl ⟨by rfl, ?v3⟩) (by assumption) ?_
        case v3 => (intro w hSw; (try dsimp only at hSw); go_simp; try with_reducible rfl)
        try simp only [Act.put, List.setIfInBounds_toArray, List.set_cons_zero, List.set_cons_succ, List.getElem_toArray, List.getElem_cons_succ, List.getElem_cons_zero]
        refine wpAnyH_take (i := 4) (v := ?_) rfl (by kernel_rfl) (by kernel_rfl) (by kernel_rfl) (fun _ _ _ h => h) (Or.inl ⟨by rfl, ?v4⟩) (by assumption) ?_
        case v4 => (intro w hSw; (try dsimp only at hSw); go_simp; try with_reducible rfl)
        try simp only [Act.put, List.setIfInBounds_toArray, List.set_cons_zero, List.set_cons_succ, List.getElem_toArray, List.getElem_cons_succ, List.getElem_cons_zero]
        refine wpAnyH_take (i := 5) (v := ?_) rfl (by kernel_rfl) (by kernel_rfl) (by kernel_rfl) (fun _ _ _ h => h) (Or.inl ⟨by rfl, ?v5⟩) (by assumption) ?_
        case v5 => (intro w hSw; (try dsimp only at hSw); go_simp; try with_reducible rfl)
        try simp only [Act.put, List.setIfInBounds_toArray, List.set_cons_zero, List.set_cons_succ, List.getElem_toArray, List.getElem_cons_succ, List.getElem_cons_zero]
        refine wpAnyH_take (i := 6) (v := ?_) rfl (by kernel_rfl) (by kernel_rfl) (by kernel_rfl) (fun _ _ _ h => h) (Or.inl ⟨by rfl, ?v6⟩) (by assumption) ?_
        case v6 => (intro w hSw; (try dsimp only at hSw); go_simp; try with_reducible rfl)
        try simp only [Act.put, List.setIfInBounds_toArray, List.set_cons_zero, List.set_cons_succ, List.getElem_toArray, List.getElem_cons_succ, List.getElem_cons_zero]
        refine wpAnyH_take (i := 7) (v := ?_) rfl (by kernel_rfl) (by kernel_rfl) (by kernel_rfl) (fun _ _ _ h => h) (Or.inl ⟨by rfl, ?v7⟩) (by assumption) ?_
        case v7 => (intro w hSw; (try dsimp only at hSw); go_simp; try with_reducible rfl)
        try simp only [Act.put, List.setIfInBounds_toArray, List.set_cons_zero, List.set_cons_succ, List.getElem_toArray, List.getElem_cons_succ, List.getElem_cons_zero]
        refine wpAnyH_take (i := 8) (v := ?_) rfl (by kernel_rfl) (by kernel_rfl) (by kernel_rfl) (fun _ _ _ h => h) (Or.inl ⟨by rfl, ?v8⟩) (by assumption) ?_
        case v8 => (intro w hSw; (try dsimp only at hSw); go_simp; try with_reducible rfl)
        try simp only [Act.put, List.setIfInBounds_toArray, List.set_cons_zero, List.set_cons_succ, List.getElem_toArray, List.getElem_cons_succ, List.getElem_cons_zero]
        refine wpAnyH_take (i := 9) (v := ?_) rfl (by kernel_rfl) (by kernel_rfl) (by kernel_rfl) (fun _ _ _ h => h) (Or.inl ⟨by rfl, ?v9⟩) (by assumption) ?_
        case v9 => (intro w hSw; (try dsimp only at hSw); go_simp; try with_reducible rfl)
        try simp only [Act.put, List.setIfInBounds_toArray, List.set_cons_zero, List.set_cons_succ, List.getElem_toArray, List.getElem_cons_succ, List.getElem_cons_zero]
        refine wpAnyH_take (i := 10) (v := ?_) rfl (by kernel_rfl) (by kernel_rfl) (by kernel_rfl) (fun _ _ _ h => h) (Or.inl ⟨by rfl, ?v10⟩) (by assumption) ?_
        case v10 => (intro w hSw; (try dsimp only at hSw); go_simp; try with_reducible rfl)
        try simp only [Act.put, List.setIfInBounds_toArray, List.set_cons_zero, List.set_cons_succ, List.getElem_toArray, List.getElem_cons_succ, List.getElem_cons_zero]
        refine wpAnyH_take (i := 11) (v := ?_) rfl (by kernel_rfl) (by kernel_rfl) (by kernel_rfl) (fun _ _ _ h => h) (Or.inl ⟨by rfl, ?v11⟩) (by assumption) ?_
        case v11 => (intro w hSw; (try dsimp only at hSw); go_simp; try with_reducible rfl)
        try simp only [Act.put, List.setIfInBounds_toArray, List.set_cons_zero, List.set_cons_succ, List.getElem_toArray, List.getElem_cons_succ, List.getElem_cons_zero]
        refine wpAnyH_take (i := 12) (v := ?_) rfl (by kernel_rfl) (by kernel_rfl) (by kernel_rfl) (fun _ _ _ h => h) (Or.inl ⟨by rfl, ?v12⟩) (by assumption) ?_
        case v12 => (intro w hSw; (try dsimp only at hSw); go_simp; try with_reducible rfl)
        try simp only [Act.put, List.setIfInBounds_toArray, List.set_cons_zero, List.set_cons_succ, List.getElem_toArray, List.getElem_cons_succ, List.getElem_cons_zero]
        refine wpAnyH_take (i := 13) (v := ?_) rfl (by kernel_rfl) (by kernel_rfl) (by kernel_rfl) (fun _ _ _ h => h) (Or.inl ⟨by rfl, ?v13⟩) (by assumption) ?_
        case v13 => (intro w hSw; (try dsimp only at hSw); go_simp; try with_reducible rfl)
        try simp only [Act.put, List.setIfInBounds_toArray, List.set_cons_zero, List.set_cons_succ, List.getElem_toArray, List.getElem_cons_succ, List.getElem_cons_zero]
        refine wpAnyH_take (i := 14) (v := ?_) rfl (by kernel_rfl) (by kernel_rfl) (by kernel_rfl) (fun _ _ _ h => h) (Or.inl ⟨by rfl, ?v14⟩) (by assumption) ?_
        case v14 => (intro w hSw; (try dsimp only at hSw); go_simp; try with_reducible rfl)
        try simp only [Act.put, List.setIfInBounds_toArray, List.set_cons_zero, List.set_cons_succ, List.getElem_toArray, List.getElem_cons_succ, List.getElem_cons_zero]
        refine wpAnyH_take (i := 15) (v := ?_) rfl (by kernel_rfl) (by kernel_rfl) (by kernel_rfl) (fun _ _ _ h => h) (Or.inl ⟨by rfl, ?v15⟩) (by assumption) ?_
        case v15 => (intro w hSw; (try dsimp only at hSw); go_simp; try with_reducible rfl)
        try simp only [Act.put, List.setIfInBounds_toArray, List.set_cons_zero, List.set_cons_succ, List.getElem_toArray, List.getElem_cons_succ, List.getElem_cons_zero]
        refine wpAnyH_take (i := 16) (v := ?_) rfl (by kernel_rfl) (by kernel_rfl) (by kernel_rfl) (fun _ _ _ h => h) (Or.inl ⟨by rfl, ?v16⟩) (by assumption) ?_
        case v16 => (intro w hSw; (try dsimp only at hSw); go_simp; try with_reducible rfl)
        try simp only [Act.put, List.setIfInBounds_toArray, List.set_cons_zero, List.set_cons_succ, List.getElem_toArray, List.getElem_cons_succ, List.getElem_cons_zero]
        refine wpAnyH_take (i := 17) (v := ?_) rfl (by kernel_rfl) (by kernel_rfl) (by kernel_rfl) (fun _ _ _ h => h) (Or.inl ⟨by rfl, ?v17⟩) (by assumption) ?_
        case v17 => (intro w hSw; (try dsimp only at hSw); go_simp; try with_reducible rfl)
        try simp only [Act.put, List.setIfInBounds_toArray, List.set_cons_zero, List.set_cons_succ, List.getElem_toArray, List.getElem_cons_succ, List.getElem_cons_zero]
        refine wpAnyH_take (i := 18) (v := ?_) rfl (by kernel_rfl) (by kernel_rfl) (by kernel_rfl) (fun _ _ _ h => h) (Or.inl ⟨by rfl, ?v18⟩) (by assumption) ?_
        case v18 => (intro w hSw; (try dsimp only at hSw); go_simp; try with_reducible rfl)
        try simp only [Act.put, List.setIfInBounds_toArray, List.set_cons_zero, List.set_cons_succ, List.getElem_toArray, List.getElem_cons_succ, List.getElem_cons_zero]
        refine wpAnyH_take (i := 19) (v := ?_) rfl (by kernel_rfl) (by kernel_rfl) (by kernel_rfl) (fun _ _ _ h => h) (Or.inl ⟨by rfl, ?v19⟩) (by assumption) ?_
        case v19 => (intro w hSw; (try dsimp only at hSw); go_simp; try with_reducible rfl)
        try simp only [Act.put, List.setIfInBounds_toArray, List.set_cons_zero, List.set_cons_succ, List.getElem_toArray, List.getElem_cons_succ, List.getElem_cons_zero]
        refine wpAnyH_take (i := 20) (v := ?_) rfl (by kernel_rfl) (by kernel_rfl) (by kernel_rfl) (fun _ _ _ h => h) (Or.inl ⟨by rfl, ?v20⟩) (by assumption) ?_
        case v20 => (intro w hSw; (try dsimp only at hSw); go_simp; try with_reducible rfl)
        try simp only [Act.put, List.setIfInBounds_toArray, List.set_cons_zero, List.set_cons_succ, List.getElem_toArray, List.getElem_cons_succ, List.getElem_cons_zero]
        refine wpAnyH_take (i := 21) (v := ?_) rfl (by kernel_rfl) (by kernel_rfl) (by kernel_rfl) (fun _ _ _ h => h) (Or.inl ⟨by rfl, ?v21⟩) (by assumption) ?_
        case v21 => (intro w hSw; (try dsimp only at hSw); go_simp; try with_reducible rfl)
        try simp only [Act.put, List.setIfInBounds_toArray, List.set_cons_zero, List.set_cons_succ, List.getElem_toArray, List.getElem_cons_succ, List.getElem_cons_zero]
        refine wpAnyH_take (i := 22) (v := ?_) rfl (by kernel_rfl) (by kernel_rfl) (by kernel_rfl) (fun _ _ _ h => h) (Or.inl ⟨by rfl, ?v22⟩) (by assumption) ?_
        case v22 => (intro w hSw; (try dsimp only at hSw); go_simp; try with_reducible rfl)
        try simp only [Act.put, List.setIfInBounds_toArray, List.set_cons_zero, List.set_cons_succ, List.getElem_toArray, List.getElem_cons_succ, List.getElem_cons_zero]
        refine wpAnyH_take (i := 23) (v := ?_) rfl (by kernel_rfl) (by kernel_rfl) (by kernel_rfl) (fun _ _ _ h => h) (Or.inl ⟨by rfl, ?v23⟩) (by assumption) ?_
        case v23 => (intro w hSw; (try dsimp only at hSw); go_simp; try with_reducible rfl)
        try simp only [Act.put, List.setIfInBounds_toArray, List.set_cons_zero, List.set_cons_succ, List.getElem_toArray, List.getElem_cons_succ, List.getElem_cons_zero]
        refine wpAnyH_take (i := 24) (v := ?_) rfl (by kernel_rfl) (by kernel_rfl) (by kernel_rfl) (fun _ _ _ h => h) (Or.inl ⟨by rfl, ?v24⟩) (by assumption) ?_
        case v24 => (intro w hSw; (try dsimp only at hSw); go_simp; try with_reducible rfl)
        try simp only [Act.put, List.setIfInBounds_toArray, List.set_cons_zero, List.set_cons_succ, List.getElem_toArray, List.getElem_cons_succ, List.getElem_cons_zero]
        refine wpAnyH_take (i := 25) (v := ?_) rfl (by kernel_rfl) (by kernel_rfl) (by kernel_rfl) (fun _ _ _ h => h) (Or.inl ⟨by rfl, ?v25⟩) (by assumption) ?_
        case v25 => (intro w hSw; (try dsimp only at hSw); go_simp; try with_reducible rfl)
        try simp only [Act.put, List.setIfInBounds_toArray, List.set_cons_zero, List.set_cons_succ, List.getElem_toArray, List.getElem_cons_succ, List.getElem_cons_zero]
        refine wpAnyH_take (i := 26) (v := ?_) rfl (by kernel_rfl) (by kernel_rfl) (by kernel_rfl) (fun _ _ _ h => h) (Or.inl ⟨by rfl, ?v26⟩) (by assumption) ?_
        case v26 => (intro w hSw; (try dsimp only at hSw); go_simp; try with_reducible rfl)
        try simp only [Act.put, List.setIfInBounds_toArray, List.set_cons_zero, List.set_cons_succ, List.getElem_toArray, List.getElem_cons_succ, List.getElem_cons_zero]
        refine wpAnyH_ready (rs := [27]) (by kernel_rfl) (by simp) ?_
        refine AllReadyH.cons rfl (fun K hK => ?_) AllReadyH.nil
        go_simp
        refine hK.out _ _ ?_ (fun hHeld => ?_)
        · go_keep
        clear hK K
        try simp only [Act.put, List.setIfInBounds_toArray, List.set_cons_zero, List.set_cons_succ, List.getElem_toArray, List.getElem_cons_succ, List.getElem_cons_zero]
        refine wpAnyH_ready (rs := [28]) (by kernel_rfl) (by simp) ?_
        refine AllReadyH.cons rfl (fun K hK => ?_) AllReadyH.nil
        refine step_append_any _ (by rfl) _ _ _ (by rfl) w.heap.size 5 i0 (.int .u8 0) 1 1 Try.underlying24 hi hz0 hz1 hz2 rfl (by decide) u6 (1 + 4 * j) (enc len O R j) (by rfl) (HOW.out _ (.cells #[.int .u8 (o : Int), .int .u8 ((r : Int) / 65536), .int .u8 ((r : Int) / 256 % 256), .int .u8 ((r : Int) % 256)] 5) rfl) ⟨wr.heap.size, 0, none⟩ 4 4 [.int .u8 (o : Int), .int .u8 ((r : Int) / 65536), .int .u8 ((r : Int) / 256 % 256), .int .u8 ((r : Int) % 256)] (by rfl) rfl (HNW.out _ rfl) (by simp [Value.oneCell']) (by unfold maxLen; omega) (by omega) (by simp; omega) ?_
        intro v2 w2 ho2 hg2
        obtain ⟨hx1, hx2, hb2⟩ := HK.out _ _ (.cells #[.int .u8 (o : Int), .int .u8 ((r : Int) / 65536), .int .u8 ((r : Int) / 256 % 256), .int .u8 ((r : Int) % 256)] 5) hg2 rfl rfl rfl rfl
        have HO2 := veil ho2
        have HB2 := veil hb2
        clear ho2 hg2 hb2
        refine hK.out _ _ ?_ (fun hHeld => ?_)
        · exact ⟨hx1, hx2⟩
        clear hK K
        try simp only [Act.put, List.setIfInBounds_toArray, List.set_cons_zero, List.set_cons_succ, List.getElem_toArray, List.getElem_cons_succ, List.getElem_cons_zero]
        refine wpAnyH_take (i := 29) (v := ?_) rfl (by kernel_rfl) (by kernel_rfl) (by kernel_rfl) (fun _ _ _ h => h) (Or.inl ⟨by rfl, ?v29⟩) (by assumption) ?_
        case v29 => (intro w hSw; (try dsimp only at hSw); go_simp; try with_reducible rfl)
        try simp only [Act.put, List.setIfInBounds_toArray, List.set_cons_zero, List.set_cons_succ, List.getElem_toArray, List.getElem_cons_succ, List.getElem_cons_zero]
        refine wpAnyH_done (by kernel_rfl) ?_ _
        go_wp2
        go_roundw
        case rel =>
          refine ⟨j + 1, by omega, by go_num, ?_, HB2.out⟩
          rw [HE.out]
          exact HO2.out
        case measure => simp [intOf]; omega
    · have hjl' : ¬ (j : Int) < (len : Int) := by omega
      obtain rfl : j = len := by omega
      have HO := veil hown
      have HB := veil hbel
      clear hown hbel
      go_wp2
      go_ret2
      exact ⟨_, rfl, HO.out, HB.out⟩
end Go.Proofs.Ytnnpbbiiapipaaa
