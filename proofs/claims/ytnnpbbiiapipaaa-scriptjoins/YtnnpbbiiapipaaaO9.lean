/-
  prog: the document's Next walked; slices of none or one held against each other.
-/
import Derived.Test.YtnnpbbiiapipaaaO8
namespace Go.Proofs.Ytnnpbbiiapipaaa
open Go.RowKit Go.Lib
set_option linter.unusedVariables false

theorem rcheck_yes (w : World) (a : Option Addr) (len cap : Nat) (hlen : len < 9223372036854775808) (O R : Nat → Int) (hp : Prg w a len O R) (hr : Rt len O R) :
    Calls Try.prog 27 #[.slice a len cap] w fun e w' => e = .returned (.tuple #[.int .i64 0, .int .i64 0]) ∧ Below w.heap.size w w' :=
  (rcheck_ok w a len cap hlen O R hp).mono fun e w' ⟨x, y, he, hc, hb⟩ => by
    obtain ⟨y', h'⟩ := hr
    obtain ⟨rfl, rfl⟩ := h'.one hc
    obtain ⟨_, _, _, _, rfl⟩ := hc.zero
    exact ⟨he, hb⟩
theorem rcheck_no (w : World) (a : Option Addr) (len cap : Nat) (hlen : len < 9223372036854775808) (O R : Nat → Int) (hp : Prg w a len O R) (hr : ¬ Rt len O R) :
    Calls Try.prog 27 #[.slice a len cap] w fun e w' => ∃ y : Int, e = .returned (.tuple #[.int .i64 3, .int .i64 y]) ∧ Below w.heap.size w w' ∧ Chk len O R 3 y :=
  (rcheck_ok w a len cap hlen O R hp).mono fun e w' ⟨x, y, he, hc, hb⟩ => by
    have hx : x ≠ 0 := fun q => hr ⟨y, q ▸ hc⟩
    have h3 := hc.three hx
    subst h3
    exact ⟨y, he, hb, hc⟩

end Go.Proofs.Ytnnpbbiiapipaaa
