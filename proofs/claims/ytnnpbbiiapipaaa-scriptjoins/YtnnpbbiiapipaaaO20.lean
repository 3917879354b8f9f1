/-
  prog: Decode walked where the length fits; a program's own bytes tell it again.
-/
import Derived.Test.YtnnpbbiiapipaaaO19
namespace Go.Proofs.Ytnnpbbiiapipaaa
open Go.RowKit Go.Lib

theorem prg_any {w : World} {base : Nat} {v : Value} {k : Nat} {O R : Nat → Int} (h : w.ownsRow base 64 2 v k (pcells O R k)) : ∃ a cap, v = .slice a k cap ∧ Prg w a k O R := by
  cases k with
  | zero =>
    rcases h.2 with ⟨rfl, _⟩ | ⟨g, cap, cur, rfl, _⟩
    · exact ⟨_, _, rfl, .inl rfl⟩
    · exact ⟨_, _, rfl, .inl rfl⟩
  | succ k => exact prg_row h
theorem decode_yes (w : World) (a : Option Addr) (len cap : Nat) (X : Nat → Nat) (hb : Byt w a len X) (hc : len ≤ cap) (hcap : cap < 9223372036854775808) (hx : X 0 < 256) (he : len = 1 + 4 * X 0) (hr : Rt (X 0) (deO X) (deR X)) :
    Calls Try.prog 42 #[.slice a len cap] w fun e w' => ∃ a' cap', e = .returned (.tuple #[.slice a' (X 0) cap', .int .i64 0]) ∧ Prg w' a' (X 0) (deO X) (deR X) ∧ Below w.heap.size w w' := by
  have HR := veil (read_ok w a len cap X hb hc hcap)
  have HN := veil (fun w1 a1 cap1 hp => right_yes w1 a1 (X 0) cap1 (by omega) (deO X) (deR X) hp hr)
  have HE := veil he
  clear hb he hr
  go_enter Try.func42, Try.ntmps42
  go_wp2_with (first
    | (go_at_call 47; refine (HR.out).mono ?_; rintro e w1 ⟨v, rfl, hb, hv⟩; have hv2 : w1.ownsRow w.heap.size 64 2 v (X 0) (pcells (deO X) (deR X) (X 0)) := (by rcases hv with ⟨_, q⟩ | ⟨q, _⟩; exact q; exact absurd HE.out q); obtain ⟨a1, cap1, rfl, hp1⟩ := prg_any hv2; have HP1 := veil hp1; have HB := veil hb; clear hb hv hv2 hp1)
    | (go_at_call 45; refine (HN.out _ _ _ HP1.out).mono ?_; rintro e w2 ⟨rfl, hb⟩; have HB2 := veil (HB.out.trans (hb.mono HB.out.size)); have HP2 := veil (HP1.out.below hb); clear hb))
  go_ret2
  exact ⟨_, _, rfl, HP2.out, HB2.out⟩
theorem decode_wrong (w : World) (a : Option Addr) (len cap : Nat) (X : Nat → Nat) (hb : Byt w a len X) (hc : len ≤ cap) (hcap : cap < 9223372036854775808) (hx : X 0 < 256) (he : len = 1 + 4 * X 0) (hr : ¬ Rt (X 0) (deO X) (deR X)) :
    Calls Try.prog 42 #[.slice a len cap] w fun e w' => e = .returned (.tuple #[.slice none 0 0, .int .i64 3]) ∧ Below w.heap.size w w' := by
  have HR := veil (read_ok w a len cap X hb hc hcap)
  have HN := veil (fun w1 a1 cap1 hp => right_no w1 a1 (X 0) cap1 (by omega) (deO X) (deR X) hp hr)
  have HE := veil he
  clear hb he hr
  go_enter Try.func42, Try.ntmps42
  go_wp2_with (first
    | (go_at_call 47; refine (HR.out).mono ?_; rintro e w1 ⟨v, rfl, hb, hv⟩; have hv2 : w1.ownsRow w.heap.size 64 2 v (X 0) (pcells (deO X) (deR X) (X 0)) := (by rcases hv with ⟨_, q⟩ | ⟨q, _⟩; exact q; exact absurd HE.out q); obtain ⟨a1, cap1, rfl, hp1⟩ := prg_any hv2; have HP1 := veil hp1; have HB := veil hb; clear hb hv hv2 hp1)
    | (go_at_call 45; refine (HN.out _ _ _ HP1.out).mono ?_; rintro e w2 ⟨rfl, hb, _⟩; have HB2 := veil (HB.out.trans (hb.mono HB.out.size)); clear hb))
  go_ret2
  exact ⟨rfl, HB2.out⟩
set_option maxHeartbeats 1000000 in
theorem psame_walk (w : World) (ga oa gb ob len ca cb : Nat) (O R : Nat → Int) (hl : len ≤ 1024)
    (hca : ∀ j, j < len → w.cell? ⟨ga, oa + j * 2, none⟩ = some (.int .i64 (O j)) ∧ w.cell? ⟨ga, oa + j * 2 + 1, none⟩ = some (.int .i64 (R j))) (hcb : ∀ j, j < len → w.cell? ⟨gb, ob + j * 2, none⟩ = some (.int .i64 (O j)) ∧ w.cell? ⟨gb, ob + j * 2 + 1, none⟩ = some (.int .i64 (R j))) :
    Calls Try.prog 32 #[.slice (some ⟨ga, oa, none⟩) len ca, .slice (some ⟨gb, ob, none⟩) len cb] w fun e w' => e = .returned (.bool true) ∧ ∃ q, w' = w.drewN q := by
  have HA := veil hca
  have HB := veil hcb
  clear hca hcb
  go_enter Try.func32, Try.ntmps32
  go_wp2
  go_loopw [5] (fun i wr => ∃ j q : Nat, j ≤ len ∧ i = .int .i64 j ∧ wr = w.drewN q) (fun i _ => len - (intOf i).toNat)
  case atStart => exact ⟨0, 0, by omega, rfl, rfl⟩
  case round =>
    obtain ⟨j, q, hj, rfl, rfl⟩ := hrel
    by_cases hjl : j < len
    · obtain ⟨e1, e2⟩ := HA.out j hjl
      obtain ⟨e3, e4⟩ := HB.out j hjl
      go_wp2
      go_quiet (fail)
      go_wp2
      go_roundw
      case rel => exact ⟨j + 1, _, by omega, by go_num, rfl⟩
      case measure => simp [intOf]; omega
    · go_wp2
      go_ret
      exact ⟨rfl, _, rfl⟩
end Go.Proofs.Ytnnpbbiiapipaaa
