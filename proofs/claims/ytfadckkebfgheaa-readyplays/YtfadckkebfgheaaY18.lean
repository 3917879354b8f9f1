/-
  The walk of ReadyPlays.
-/
import Derived.Test.YtfadckkebfgheaaY17
namespace Go.Proofs.Ytfadckkebfgheaa
open Go.RowKit Go.Lib

set_option maxHeartbeats 4000000 in
theorem plays_walk (m : Nat) (hm : m < 256) (a : Option Addr) (len cap : Nat) (D : Nat → Dq) (x : Int) (w : World) (hlen : len < 9223372036854775808) (hd : Dqs w a len D) :
    Calls Try.prog 3 #[.int .u8 m, .slice a len cap, .int .i64 x] w fun e w' => e = .returned (.bool true) ∧ Below w.heap.size w w' := by
  have HP := veil (play_ok w m hm a len cap hlen D hd)
  clear hd
  go_enter Try.func3, Try.ntmps3
  go_wp2_with (first
    | (go_at_call 11; refine (HP.out).mono ?_; rintro e w1 ⟨base, sb, qb, gq, hb, gh, rb, turn, v, M, rfl, h1, h3, h4, ht, hB, hL⟩; have HB := veil hB; have HL := veil hL; clear hB hL)
    | (go_at_call 12; refine (live_ready _).mono ?_; rintro e w2 ⟨rfl, hb2⟩; have HB2 := veil (HB.out.below hb2); have HL2 := veil (HL.out.trans (hb2.mono HL.out.size)); clear hb2)
    | (go_at_call 13; refine (same_ok _ _ _ _ _ _ _ _ _ _ _ v M HB2.out x).mono ?_; rintro e w3 ⟨rfl, hb3⟩; have HL3 := veil (HL2.out.trans (hb3.mono HL2.out.size)); clear hb3))
  go_ret
  exact ⟨rfl, HL3.out⟩

end Go.Proofs.Ytfadckkebfgheaa
